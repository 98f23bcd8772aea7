/-
  Texts laid together: IpPlain, NatP, RowInt, CmpOr.
-/
import Derived.Test.YtoegfgbalcholaaZD01
import Derived.Deep.CutRange
import Derived.RegionTactic
import Derived.BigRegion

/-
  Heads of packets as lists of bytes: what stands ahead of the field, what behind it, the whole. Nothing of the program.
-/
namespace Go.Proofs.Ytoegfgbalcholaa
set_option maxRecDepth 10000
/-- A number's bytes, the highest first. -/
def b16 (x : Int) : List Int := [x / 256, x % 256]
def b32 (x : Int) : List Int := [x / 16777216, x / 65536 % 256, x / 256 % 256, x % 256]
theorem b16_bytes {x : Int} (h : 0 ≤ x ∧ x < 65536) : Bytes (b16 x) := by unfold b16; intro y hy; simp at hy; omega
theorem b32_bytes {x : Int} (h : 0 ≤ x ∧ x < 4294967296) : Bytes (b32 x) := by unfold b32; intro y hy; simp at hy; omega
def flagsOf (df : Bool) : Int := if df then 16384 else 0
/-- What stands ahead of a header's field (k bytes of options, 'long' in all). -/
def aheadL (tos id_ : Int) (df : Bool) (ttl proto : Int) (k : Nat) (long : Int) : List Int :=
  [64 + (20 + (k : Int)) / 4, tos] ++ b16 long ++ b16 id_ ++ b16 (flagsOf df) ++ [ttl, proto]
def behindL (src dst : Int) (opts : List Int) : List Int := b32 src ++ b32 dst ++ opts
def fieldL (tos id_ : Int) (df : Bool) (ttl proto src dst : Int) (opts : List Int) (long : Int) : Int :=
  65535 - sumL (aheadL tos id_ df ttl proto opts.length long ++ behindL src dst opts)
def packetL (tos id_ : Int) (df : Bool) (ttl proto src dst : Int) (opts payload : List Int) : List Int :=
  aheadL tos id_ df ttl proto opts.length (20 + opts.length + payload.length) ++ b16 (fieldL tos id_ df ttl proto src dst opts (20 + opts.length + payload.length)) ++ behindL src dst opts ++ payload
/-- Whether a head may be. -/
def mayB (ttl : Int) (n : Nat) : Bool := decide (0 < ttl) && decide (n ≤ 40) && decide (n % 4 = 0)

theorem aheadL_len (tos id_ : Int) (df : Bool) (ttl proto : Int) (k : Nat) (long : Int) : (aheadL tos id_ df ttl proto k long).length = 10 := rfl
theorem behindL_len (src dst : Int) (opts : List Int) : (behindL src dst opts).length = 8 + opts.length := by simp [behindL, b32]; omega
theorem fieldL_bd (tos id_ : Int) (df : Bool) (ttl proto src dst : Int) (opts : List Int) (long : Int) : 0 ≤ fieldL tos id_ df ttl proto src dst opts long ∧ fieldL tos id_ df ttl proto src dst opts long < 65536 := by
  unfold fieldL
  have := sumL_bd (aheadL tos id_ df ttl proto opts.length long ++ behindL src dst opts)
  omega
theorem aheadL_bytes {tos id_ : Int} {df : Bool} {ttl proto : Int} {k : Nat} {long : Int} (h0 : 0 ≤ tos ∧ tos < 256) (h1 : 0 ≤ id_ ∧ id_ < 65536) (h2 : 0 ≤ ttl ∧ ttl < 256) (h3 : 0 ≤ proto ∧ proto < 256) (hk : k ≤ 40) (hl : 0 ≤ long ∧ long < 65536) :
    Bytes (aheadL tos id_ df ttl proto k long) := by
  unfold aheadL
  refine ((((Bytes.app ?_ (b16_bytes hl)).app (b16_bytes h1)).app (b16_bytes ?_)).app ?_)
  · intro y hy; simp at hy; omega
  · unfold flagsOf; split <;> omega
  · intro y hy; simp at hy; omega
theorem behindL_bytes {src dst : Int} {opts : List Int} (h0 : 0 ≤ src ∧ src < 4294967296) (h1 : 0 ≤ dst ∧ dst < 4294967296) (h : Bytes opts) : Bytes (behindL src dst opts) :=
  ((b32_bytes h0).app (b32_bytes h1)).app h

/-- A packet's bytes, one by one. -/
theorem packetL_cons (tos id_ : Int) (df : Bool) (ttl proto src dst : Int) (opts payload : List Int) : ∃ z u v : Int, z = 20 + opts.length + payload.length ∧
    packetL tos id_ df ttl proto src dst opts payload = (64 + (20 + (opts.length : Int)) / 4) :: tos :: (z / 256) :: (z % 256) :: (id_ / 256) :: (id_ % 256) :: (flagsOf df / 256) :: (flagsOf df % 256) :: ttl :: proto :: u :: v ::
      (src / 16777216) :: (src / 65536 % 256) :: (src / 256 % 256) :: (src % 256) :: (dst / 16777216) :: (dst / 65536 % 256) :: (dst / 256 % 256) :: (dst % 256) :: (opts ++ payload) :=
  ⟨_, fieldL tos id_ df ttl proto src dst opts (20 + opts.length + payload.length) / 256, fieldL tos id_ df ttl proto src dst opts (20 + opts.length + payload.length) % 256, rfl, by simp [packetL, aheadL, behindL, b16, b32]⟩

/-- Two packets of as many options and one payload, part by part. -/
structure Parts (L L' : List Int) (tos tos' id_ id' : Int) (df df' : Bool) (ttl ttl' proto proto' src src' dst dst' : Int) (m : Nat) : Prop where
  s0 : decide ((L.take 1).drop 0 = (L'.take 1).drop 0) = true
  s1 : decide ((L.take 2).drop 1 = (L'.take 2).drop 1) = (tos == tos')
  s2 : decide ((L.take 4).drop 2 = (L'.take 4).drop 2) = true
  s4 : decide ((L.take 6).drop 4 = (L'.take 6).drop 4) = (id_ == id')
  s6 : decide ((L.take 8).drop 6 = (L'.take 8).drop 6) = (df == df')
  s8 : decide ((L.take 9).drop 8 = (L'.take 9).drop 8) = (ttl == ttl')
  s9 : decide ((L.take 10).drop 9 = (L'.take 10).drop 9) = (proto == proto')
  s12 : decide ((L.take 16).drop 12 = (L'.take 16).drop 12) = (src == src')
  s16 : decide ((L.take 20).drop 16 = (L'.take 20).drop 16) = (dst == dst')
  s20 : decide ((L.take m).drop 20 = (L'.take m).drop 20) = true

end Go.Proofs.Ytoegfgbalcholaa

/-
  Packets whose words are changed (stage 15, written ahead): plain lists: what a change does to a header's sum, to a payload's, to all other bytes. Nothing of the program.
-/
namespace Go.Proofs.Ytoegfgbalcholaa
set_option maxRecDepth 10000
set_option linter.unusedSimpArgs false
set_option linter.unusedVariables false

theorem wordL_drop (b : List Int) (k H : Nat) (h : H ≤ k) : wordL (b.drop (2 * H)) (k - H) = wordL b k := by
  unfold wordL
  simp only [List.getD, List.getElem?_drop]
  rw [show 2 * H + 2 * (k - H) = 2 * k by omega, show 2 * H + (2 * (k - H) + 1) = 2 * k + 1 by omega]
theorem getD_lay (b : List Int) (k i : Nat) (n : Int) (h : i / 2 ≠ k) : (layL b k n).getD i 0 = b.getD i 0 := by
  unfold layL
  simp only [List.getD]
  rw [List.getElem?_set_ne (by omega), List.getElem?_set_ne (by omega)]
theorem getD_lay_at (b : List Int) (k i : Nat) (n : Int) (h : i / 2 = k) (hl : 2 * k + 1 < b.length) : (layL b k n).getD i 0 = if i % 2 = 0 then n / 256 else n % 256 := by
  unfold layL
  simp only [List.getD]
  by_cases h2 : i % 2 = 0
  · rw [if_pos h2, List.getElem?_set_ne (by omega), show i = 2 * k by omega, List.getElem?_set_self (by omega)]
    rfl
  · rw [if_neg h2, show i = 2 * k + 1 by omega, List.getElem?_set_self (by rw [List.length_set]; omega)]
    rfl
/-- What a field becomes. -/
def fixP (pr f was n : Int) : Int := if pr ≠ 6 ∧ wordF f was n = 0 then 65535 else wordF f was n
theorem fixP_bd (pr : Int) {f was n : Int} (hf : U16 f) (ha : U16 was) (hb : U16 n) : U16 (fixP pr f was n) := by
  unfold fixP
  split
  · exact ⟨by omega, by omega⟩
  · exact wordF_bd f was n hf ha hb
theorem fixP_mod (pr f was n : Int) : fixP pr f was n % 65535 = (f + was - n) % 65535 := by
  have h := wordF_mod f was n
  unfold fixP
  split
  · rename_i hc
    rw [hc.2] at h
    omega
  · exact h
theorem fixP_nz {pr f was n : Int} (hp : pr ≠ 6) : fixP pr f was n ≠ 0 := by
  unfold fixP
  by_cases h : wordF f was n = 0
  · rw [if_pos ⟨hp, h⟩]; omega
  · rw [if_neg (fun hc => h hc.2)]; exact h
/-- A word of a packet's bytes becomes another one, and its fields follow: H: how many words its header has; F: the word of the payload's field. -/
def headW (H : Nat) (b : List Int) (k : Nat) (n : Int) : List Int := if k < H then layL (layL b k n) 5 (wordF (wordL (layL b k n) 5) (wordL b k) n) else layL b k n
def overW (pr : Int) (H k : Nat) : Prop := H ≤ k ∨ (6 ≤ k ∧ k ≤ 9 ∧ pr ≠ 1)
instance (pr : Int) (H k : Nat) : Decidable (overW pr H k) := by unfold overW; infer_instance
def adW (b : List Int) : Int := wordL b 6 + wordL b 7 + wordL b 8 + wordL b 9
def totW (pr : Int) (H : Nat) (b : List Int) : Int := (if pr = 1 then 0 else adW b) + ws false (b.drop (2 * H))
/-- Where things stand. -/
structure LayW (H F : Nat) (b : List Int) : Prop where
  byte : Bytes b
  h10 : 10 ≤ H
  hF : H ≤ F
  len : 2 * F + 1 < b.length
/-- What changes, and what stays. -/
structure SameW (pr : Int) (H F : Nat) (b b' : List Int) : Prop where
  lay : LayW H F b'
  len : b'.length = b.length
  h : (ws false (b'.take (2 * H)) - ws false (b.take (2 * H))) % 65535 = 0
  p : ¬ (pr = 17 ∧ wordL b F = 0) → (totW pr H b' - totW pr H b) % 65535 = 0
  z : pr = 17 → wordL b F = 0 → wordL b' F = 0
  nz : pr = 17 → wordL b F ≠ 0 → wordL b' F ≠ 0
  i : pr = 1 → b'.drop (2 * H) = b.drop (2 * H) ∨ wordL b' F ≠ 0
theorem SameW.refl {pr : Int} {H F : Nat} {b : List Int} (h : LayW H F b) : SameW pr H F b b := ⟨h, rfl, by simp, fun _ => by simp, fun _ h => h, fun _ h => h, fun _ => .inl rfl⟩
theorem SameW.trans {pr : Int} {H F : Nat} {a b c : List Int} (h : SameW pr H F a b) (k : SameW pr H F b c) : SameW pr H F a c := by
  refine ⟨k.lay, k.len.trans h.len, ?_, fun hn => ?_, fun hp h0 => k.z hp (h.z hp h0), fun hp h0 => k.nz hp (h.nz hp h0), fun hp => ?_⟩
  · have := h.h; have := k.h; omega
  · have h1 := h.p hn
    have h2 := k.p (fun hc => by
      by_cases h0 : wordL a F = 0
      · exact hn ⟨hc.1, h0⟩
      · exact h.nz hc.1 h0 hc.2)
    omega
  · rcases k.i hp with e | e
    · rcases h.i hp with e2 | e2
      · exact .inl (e.trans e2)
      · refine .inr (fun hz => e2 ?_)
        have hF := h.lay.hF
        rw [← wordL_drop b F H hF, ← e, wordL_drop c F H hF]
        exact hz
    · exact .inr e
theorem headW_word {H : Nat} {b : List Int} {k : Nat} {n : Int} {j : Nat} (hj5 : j ≠ 5) (hjk : j ≠ k) : wordL (headW H b k n) j = wordL b j := by
  unfold headW
  split
  · rw [wordL_lay_other _ 5 j _ (fun e => hj5 e.symm), wordL_lay_other _ k j _ (fun e => hjk e.symm)]
  · rw [wordL_lay_other _ k j _ (fun e => hjk e.symm)]
end Go.Proofs.Ytoegfgbalcholaa

/-
  A slice of ints that reads as a list.
-/
namespace Go.Proofs.Ytoegfgbalcholaa
set_option maxRecDepth 10000
open Go.RowKit

/-- A slice of ints. -/
structure RdI (w : World) (A : Option Addr) (n : Nat) (l : List Int) : Prop where
  len : l.length = n
  at_ : 0 < n → ∃ b o, A = some ⟨b, o, none⟩ ∧ b < w.heap.size ∧ ∀ i, i < n → w.cell? ⟨b, o + i, none⟩ = some (.int .i64 (l.getD i 0))
theorem RdI.below {w w' : World} {A : Option Addr} {n : Nat} {l : List Int} (h : RdI w A n l) (hb : Below w.heap.size w w') : RdI w' A n l :=
  ⟨h.len, fun hn => by
    obtain ⟨b, o, e, hlt, hc⟩ := h.at_ hn
    exact ⟨b, o, e, Nat.lt_of_lt_of_le hlt hb.size, fun i hi => by rw [hb.cell (p := ⟨b, o + i, none⟩) hlt]; exact hc i hi⟩⟩
theorem RdI.index {w : World} {A : Option Addr} {n c : Nat} {l : List Int} (h : RdI w A n l) {j : Nat} (hj : j < n) :
    ∃ p, (∀ W : World, (Instr.indexAt 60 (.slice A n c) (.int .i64 (j : Int))).run Try.prog W = .ok (.pointer (some p)) W) ∧ w.cell? p = some (.int .i64 (l.getD j 0)) ∧ p.block < w.heap.size := by
  obtain ⟨b, o, rfl, hb, hc⟩ := h.at_ (by omega)
  have h0 : (0 : Int) ≤ (j : Int) := by omega
  have h1 : (j : Int) < (n : Int) := by omega
  exact ⟨⟨b, o + j, none⟩, fun W => by go_simp, hc j hj, hb⟩
theorem RdI.const (w : World) (g : Nat) (hg : w.heap.size = g) (l : List Int) (t : TypeId) (fr : Nat × Nat) : RdI (w.alloc (.cells (l.map (Value.int .i64)).toArray t fr)) (some ⟨g, 0, none⟩) l.length l := by
  subst hg
  refine ⟨rfl, fun _ => ⟨w.heap.size, 0, rfl, by simp, fun i hi => ?_⟩⟩
  rw [World.cell?_alloc_mark]
  simp [List.getD, List.getElem?_eq_getElem hi]
end Go.Proofs.Ytoegfgbalcholaa

/-
  The contracts of cmp.Compare and cmp.Or.
-/
namespace Go.Proofs.Ytoegfgbalcholaa
set_option maxRecDepth 10000
open Go.RowKit
set_option linter.unusedSimpArgs false
set_option linter.unusedVariables false

def two (a b : Int) (z : Int) : Int := if a < b then -1 else if b < a then 1 else z
end Go.Proofs.Ytoegfgbalcholaa
