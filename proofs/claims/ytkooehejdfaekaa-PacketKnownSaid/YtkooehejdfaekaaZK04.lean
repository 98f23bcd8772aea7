/-
  Texts laid together: IcmpRef, IcmpSort, IpPlain, Hd.
-/
import Derived.Test.YtkooehejdfaekaaZK02
import Derived.Test.YtkooehejdfaekaaZK03
import Derived.Deep.CutRange
import Derived.RegionTactic
import Derived.Laws.BitsLemmas
import Derived.WideMake
import Derived.Deep.RegionHeld3
import Derived.Test.YtkooehejdfaekaaZK01

/-
  The document's own answers for messages (culvertref08): Sort, Echo, WithId, Same.
-/
namespace Go.Proofs.Ytkooehejdfaekaa
set_option maxRecDepth 10000
open Go.RowKit

theorem cells4 {w : World} {g : Nat} {u0 u1 u2 u3 : Value} {t : TypeId} (h : w.heap[g]? = some (.cells #[u0, u1, u2, u3] t (0, 0))) : w.cell? ⟨g, 0, none⟩ = some u0 ∧ w.cell? ⟨g, 1, none⟩ = some u1 ∧ w.cell? ⟨g, 2, none⟩ = some u2 ∧ w.cell? ⟨g, 3, none⟩ = some u3 := ⟨by rw [blk_cell h]; rfl, by rw [blk_cell h]; rfl, by rw [blk_cell h]; rfl, by rw [blk_cell h]; rfl⟩
theorem set_cell4 {w : World} {q : Nat} {u0 u1 u2 u3 : Value} {t : TypeId} (h : w.heap[q]? = some (.cells #[u0, u1, u2, u3] t (0, 0))) (v : Value) : (w.setCell ⟨q, 2, none⟩ v).heap[q]? = some (.cells #[u0, u1, v, u3] t (0, 0)) := by
  simp [World.setCell, Array.getElem?_modify, h]
theorem other_blk {w : World} {q p i : Nat} {o : Obj} (h : w.heap[q]? = some o) (hn : p ≠ q) (v : Value) : (w.setCell ⟨p, i, none⟩ v).heap[q]? = some o := by
  simp [World.setCell, Array.getElem?_modify, h, hn]
end Go.Proofs.Ytkooehejdfaekaa

/-
  The contracts of package icmp's sorts (a map that the call makes), Sort, Echo.
-/
namespace Go.Proofs.Ytkooehejdfaekaa
set_option maxRecDepth 10000
open Go.RowKit
set_option linter.unusedSimpArgs false
set_option linter.unusedVariables false

theorem findU8 (k : Int) : ∀ (es : List MapEntry) (i : Nat), (∀ e ∈ es, ∃ j : Int, e.key = .int .u8 j ∧ (k == j) = false) → Instr.findNow (.int .u8) (.int .u8 k) es i = some none
  | [], _, _ => rfl
  | e :: es, i, h => by
    obtain ⟨j, hj, hk⟩ := h e (.head _)
    have := findU8 k es (i + 1) (fun x hx => h x (.tail _ hx))
    simp [Instr.findNow, Instr.sameNow, hj, hk, this]
theorem check_u8 (k : Int) (w : World) (e : Bool) : (Instr.checkKey e 10000 5 (.int .u8 k)).run Try.prog w = .ok () w :=
  MapKept.run_checkKey (k := .int .u8 k) Try.underlying5 (by simp [MapKept.IsKey]) e 9999
def setO (w : World) (b : Nat) (o : Obj) : World := { w with heap := w.heap.setIfInBounds b o }
theorem setO_at {w : World} {b : Nat} {o : Obj} (o' : Obj) (hb : w.heap[b]? = some o) : (setO w b o').heap[b]? = some o' := by
  have := lt_of_block hb
  simp [setO, this]
theorem setO_below {W w : World} {B b : Nat} {o : Obj} (h : Below B W w) (hb : B ≤ b) : Below B W (setO w b o) :=
  ⟨h.os, h.tape, h.output, by simpa [setO] using h.size, fun k hk => by
    have := h.block k hk
    rw [← this]
    simp only [setO]
    rw [Array.getElem?_setIfInBounds_ne (by omega)]⟩
theorem anyH_mono {P : Program} {md : Region.Mode} {ops : Array Oper} {Q : Exit → Act → World → Prop} {S S' : World → Prop} (hS : ∀ w, S' w → S w) :
    ∀ (fuel : Nat) (listed : Array Bool) (a : Act) (w : World), wpAnyH P md ops Q S' fuel listed a w → wpAnyH P md ops Q S fuel listed a w
  | 0, _, _, _, h => h
  | fuel + 1, _, _, _, h => ⟨h.1, fun i hi => wpOp_mono (fun a' w' h' => ⟨hS w' h'.1, anyH_mono hS fuel _ a' w' h'.2⟩) (h.2 i hi)⟩
end Go.Proofs.Ytkooehejdfaekaa

/-
  Heads of packets as lists of bytes: what stands ahead of the field, what behind it, the whole. Nothing of the program.
-/
namespace Go.Proofs.Ytkooehejdfaekaa
set_option maxRecDepth 10000
/-- A number's bytes, the highest first. -/
def b16 (x : Int) : List Int := [x / 256, x % 256]
def b32 (x : Int) : List Int := [x / 16777216, x / 65536 % 256, x / 256 % 256, x % 256]
theorem b16_bytes {x : Int} (h : 0 ≤ x ∧ x < 65536) : Bytes (b16 x) := by unfold b16; intro y hy; simp at hy; omega
theorem b32_bytes {x : Int} (h : 0 ≤ x ∧ x < 4294967296) : Bytes (b32 x) := by unfold b32; intro y hy; simp at hy; omega
def flagsOf (df : Bool) : Int := if df then 16384 else 0
/-- What stands ahead of a header's field (k bytes of options, 'long' in all). -/
def aheadL (tos id_ : Int) (df : Bool) (ttl proto : Int) (k : Nat) (long : Int) : List Int :=
  [64 + (20 + (k : Int)) / 4, tos] ++ b16 long ++ b16 id_ ++ b16 (flagsOf df) ++ [ttl, proto]
def behindL (src dst : Int) (opts : List Int) : List Int := b32 src ++ b32 dst ++ opts
def fieldL (tos id_ : Int) (df : Bool) (ttl proto src dst : Int) (opts : List Int) (long : Int) : Int :=
  65535 - sumL (aheadL tos id_ df ttl proto opts.length long ++ behindL src dst opts)
def packetL (tos id_ : Int) (df : Bool) (ttl proto src dst : Int) (opts payload : List Int) : List Int :=
  aheadL tos id_ df ttl proto opts.length (20 + opts.length + payload.length) ++ b16 (fieldL tos id_ df ttl proto src dst opts (20 + opts.length + payload.length)) ++ behindL src dst opts ++ payload
/-- Whether a head may be. -/
def mayB (ttl : Int) (n : Nat) : Bool := decide (0 < ttl) && decide (n ≤ 40) && decide (n % 4 = 0)

theorem aheadL_len (tos id_ : Int) (df : Bool) (ttl proto : Int) (k : Nat) (long : Int) : (aheadL tos id_ df ttl proto k long).length = 10 := rfl
theorem behindL_len (src dst : Int) (opts : List Int) : (behindL src dst opts).length = 8 + opts.length := by simp [behindL, b32]; omega
theorem fieldL_bd (tos id_ : Int) (df : Bool) (ttl proto src dst : Int) (opts : List Int) (long : Int) : 0 ≤ fieldL tos id_ df ttl proto src dst opts long ∧ fieldL tos id_ df ttl proto src dst opts long < 65536 := by
  unfold fieldL
  have := sumL_bd (aheadL tos id_ df ttl proto opts.length long ++ behindL src dst opts)
  omega
theorem packetL_len (tos id_ : Int) (df : Bool) (ttl proto src dst : Int) (opts payload : List Int) : (packetL tos id_ df ttl proto src dst opts payload).length = 20 + opts.length + payload.length := by
  simp [packetL, behindL_len, aheadL_len, b16]; omega

theorem aheadL_bytes {tos id_ : Int} {df : Bool} {ttl proto : Int} {k : Nat} {long : Int} (h0 : 0 ≤ tos ∧ tos < 256) (h1 : 0 ≤ id_ ∧ id_ < 65536) (h2 : 0 ≤ ttl ∧ ttl < 256) (h3 : 0 ≤ proto ∧ proto < 256) (hk : k ≤ 40) (hl : 0 ≤ long ∧ long < 65536) :
    Bytes (aheadL tos id_ df ttl proto k long) := by
  unfold aheadL
  refine ((((Bytes.app ?_ (b16_bytes hl)).app (b16_bytes h1)).app (b16_bytes ?_)).app ?_)
  · intro y hy; simp at hy; omega
  · unfold flagsOf; split <;> omega
  · intro y hy; simp at hy; omega
theorem behindL_bytes {src dst : Int} {opts : List Int} (h0 : 0 ≤ src ∧ src < 4294967296) (h1 : 0 ≤ dst ∧ dst < 4294967296) (h : Bytes opts) : Bytes (behindL src dst opts) :=
  ((b32_bytes h0).app (b32_bytes h1)).app h

/-- What is asked: the error of the first that is so, or 0. -/
def askE : List (Bool × Int) → Int
  | [] => 0
  | (b, e) :: l => if b then e else askE l
/-- How many bytes a header says it has, how many the packet; its flags. -/
def hdrL (b : List Int) : Int := b.getD 0 0 % 16 * 4
def longL (b : List Int) : Int := b.getD 2 0 * 256 + b.getD 3 0
def flagsL (b : List Int) : Int := b.getD 6 0 * 256 + b.getD 7 0
def faultsIp (b : List Int) : List (Bool × Int) :=
  [(decide (b.getD 0 0 / 16 ≠ 4) || decide (hdrL b < 20), 5), (decide ((b.length : Int) < hdrL b) || decide ((b.length : Int) < longL b), 4), (decide (longL b < b.length), 5),
    (!(sumL (b.take (hdrL b).toNat) == 65535), 20), (decide (32768 ≤ flagsL b), 5), (decide (flagsL b % 16384 ≠ 0), 21), (decide (b.getD 8 0 = 0), 23)]
/-- What is wrong with a packet's bytes, or 0. -/
def errIp (b : List Int) : Int := if 1500 < b.length then 3 else if b.length < 20 then 4 else askE (faultsIp b)
theorem ask7 (x1 x2 x3 x4 x5 x6 x7 : Bool) : askE [(x1, 5), (x2, 4), (x3, 5), (x4, 20), (x5, 5), (x6, 21), (x7, 23)] = 0 ↔ x1 = false ∧ x2 = false ∧ x3 = false ∧ x4 = false ∧ x5 = false ∧ x6 = false ∧ x7 = false := by
  cases x1 <;> cases x2 <;> cases x3 <;> cases x4 <;> cases x5 <;> cases x6 <;> cases x7 <;> decide

/-- Two packets of as many options and one payload, part by part. -/
structure Parts (L L' : List Int) (tos tos' id_ id' : Int) (df df' : Bool) (ttl ttl' proto proto' src src' dst dst' : Int) (m : Nat) : Prop where
  s0 : decide ((L.take 1).drop 0 = (L'.take 1).drop 0) = true
  s1 : decide ((L.take 2).drop 1 = (L'.take 2).drop 1) = (tos == tos')
  s2 : decide ((L.take 4).drop 2 = (L'.take 4).drop 2) = true
  s4 : decide ((L.take 6).drop 4 = (L'.take 6).drop 4) = (id_ == id')
  s6 : decide ((L.take 8).drop 6 = (L'.take 8).drop 6) = (df == df')
  s8 : decide ((L.take 9).drop 8 = (L'.take 9).drop 8) = (ttl == ttl')
  s9 : decide ((L.take 10).drop 9 = (L'.take 10).drop 9) = (proto == proto')
  s12 : decide ((L.take 16).drop 12 = (L'.take 16).drop 12) = (src == src')
  s16 : decide ((L.take 20).drop 16 = (L'.take 20).drop 16) = (dst == dst')
  s20 : decide ((L.take m).drop 20 = (L'.take m).drop 20) = true

end Go.Proofs.Ytkooehejdfaekaa

/-
  Heads of packets (api.Head) as numbers. No function of the program.
-/
namespace Go.Proofs.Ytkooehejdfaekaa
set_option maxRecDepth 10000
open Go.RowKit

structure Hd where
  «to» : Int
  id : Int
  df : Bool
  tt : Int
  pr : Int
  sr : Int
  ds : Int
  o : List Int
structure HdNum (h : Hd) : Prop where
  «to» : 0 ≤ h.to ∧ h.to < 256
  id : 0 ≤ h.id ∧ h.id < 65536
  tt : 0 ≤ h.tt ∧ h.tt < 256
  pr : 0 ≤ h.pr ∧ h.pr < 256
  sr : 0 ≤ h.sr ∧ h.sr < 4294967296
  ds : 0 ≤ h.ds ∧ h.ds < 4294967296
def zeroH : Hd := ⟨0, 0, false, 0, 0, 0, 0, []⟩
def hdSame (h h' : Hd) : Bool := decide (h.to = h'.to) && (decide (h.id = h'.id) && (decide (h.df = h'.df) && (decide (h.tt = h'.tt) && (decide (h.pr = h'.pr) && (decide (h.sr = h'.sr) && (decide (h.ds = h'.ds) && decide (h.o = h'.o)))))))
theorem hdSame_self (h : Hd) : hdSame h h = true := by simp [hdSame]
theorem hdSame_iff (h h' : Hd) : hdSame h h' = true ↔ h = h' := by
  obtain ⟨a, b, c, d, e, f, g, l⟩ := h
  obtain ⟨a', b', c', d', e', f', g', l'⟩ := h'
  simp [hdSame]
/-- A packet of this head. -/
def hdB (h : Hd) (payload : List Int) : List Int := packetL h.to h.id h.df h.tt h.pr h.sr h.ds h.o payload
end Go.Proofs.Ytkooehejdfaekaa
