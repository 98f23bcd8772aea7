/-
  Heads of packets as lists of bytes: what stands ahead of the field, what behind it, the whole. Nothing of the program.
-/
import Derived.Test.YtgcliijngaohdaaDoorSumPlain
namespace Go.Proofs.YtgcliijngaohdaaDoor
set_option maxRecDepth 10000
/-- A number's bytes, the highest first. -/
def b16 (x : Int) : List Int := [x / 256, x % 256]
def b32 (x : Int) : List Int := [x / 16777216, x / 65536 % 256, x / 256 % 256, x % 256]
theorem b16_bytes {x : Int} (h : 0 ≤ x ∧ x < 65536) : Bytes (b16 x) := by unfold b16; intro y hy; simp at hy; omega
theorem b32_bytes {x : Int} (h : 0 ≤ x ∧ x < 4294967296) : Bytes (b32 x) := by unfold b32; intro y hy; simp at hy; omega
theorem b16_inj {x y : Int} (h : b16 x = b16 y) : x = y := by unfold b16 at h; simp at h; omega
theorem b32_inj {x y : Int} (h : b32 x = b32 y) : x = y := by unfold b32 at h; simp at h; omega

def flagsOf (df : Bool) : Int := if df then 16384 else 0
/-- What stands ahead of a header's field (k bytes of options, 'long' in all). -/
def aheadL (tos id_ : Int) (df : Bool) (ttl proto : Int) (k : Nat) (long : Int) : List Int :=
  [64 + (20 + (k : Int)) / 4, tos] ++ b16 long ++ b16 id_ ++ b16 (flagsOf df) ++ [ttl, proto]
def behindL (src dst : Int) (opts : List Int) : List Int := b32 src ++ b32 dst ++ opts
def fieldL (tos id_ : Int) (df : Bool) (ttl proto src dst : Int) (opts : List Int) (long : Int) : Int :=
  65535 - sumL (aheadL tos id_ df ttl proto opts.length long ++ behindL src dst opts)
def packetL (tos id_ : Int) (df : Bool) (ttl proto src dst : Int) (opts payload : List Int) : List Int :=
  aheadL tos id_ df ttl proto opts.length (20 + opts.length + payload.length) ++ b16 (fieldL tos id_ df ttl proto src dst opts (20 + opts.length + payload.length)) ++ behindL src dst opts ++ payload
/-- Whether a head may be. -/
def mayB (ttl : Int) (n : Nat) : Bool := decide (0 < ttl) && decide (n ≤ 40) && decide (n % 4 = 0)

theorem aheadL_len (tos id_ : Int) (df : Bool) (ttl proto : Int) (k : Nat) (long : Int) : (aheadL tos id_ df ttl proto k long).length = 10 := rfl
theorem behindL_len (src dst : Int) (opts : List Int) : (behindL src dst opts).length = 8 + opts.length := by simp [behindL, b32]; omega
theorem fieldL_bd (tos id_ : Int) (df : Bool) (ttl proto src dst : Int) (opts : List Int) (long : Int) : 0 ≤ fieldL tos id_ df ttl proto src dst opts long ∧ fieldL tos id_ df ttl proto src dst opts long < 65536 := by
  unfold fieldL
  have := sumL_bd (aheadL tos id_ df ttl proto opts.length long ++ behindL src dst opts)
  omega
theorem packetL_len (tos id_ : Int) (df : Bool) (ttl proto src dst : Int) (opts payload : List Int) : (packetL tos id_ df ttl proto src dst opts payload).length = 20 + opts.length + payload.length := by
  simp [packetL, behindL_len, aheadL_len, b16]; omega

theorem aheadL_bytes {tos id_ : Int} {df : Bool} {ttl proto : Int} {k : Nat} {long : Int} (h0 : 0 ≤ tos ∧ tos < 256) (h1 : 0 ≤ id_ ∧ id_ < 65536) (h2 : 0 ≤ ttl ∧ ttl < 256) (h3 : 0 ≤ proto ∧ proto < 256) (hk : k ≤ 40) (hl : 0 ≤ long ∧ long < 65536) :
    Bytes (aheadL tos id_ df ttl proto k long) := by
  unfold aheadL
  refine ((((Bytes.app ?_ (b16_bytes hl)).app (b16_bytes h1)).app (b16_bytes ?_)).app ?_)
  · intro y hy; simp at hy; omega
  · unfold flagsOf; split <;> omega
  · intro y hy; simp at hy; omega
theorem behindL_bytes {src dst : Int} {opts : List Int} (h0 : 0 ≤ src ∧ src < 4294967296) (h1 : 0 ≤ dst ∧ dst < 4294967296) (h : Bytes opts) : Bytes (behindL src dst opts) :=
  ((b32_bytes h0).app (b32_bytes h1)).app h

/-- What is asked: the error of the first that is so, or 0. -/
def askE : List (Bool × Int) → Int
  | [] => 0
  | (b, e) :: l => if b then e else askE l
/-- How many bytes a header says it has, how many the packet; its flags. -/
def hdrL (b : List Int) : Int := b.getD 0 0 % 16 * 4
def longL (b : List Int) : Int := b.getD 2 0 * 256 + b.getD 3 0
def flagsL (b : List Int) : Int := b.getD 6 0 * 256 + b.getD 7 0
def faultsIp (b : List Int) : List (Bool × Int) :=
  [(decide (b.getD 0 0 / 16 ≠ 4) || decide (hdrL b < 20), 5), (decide ((b.length : Int) < hdrL b) || decide ((b.length : Int) < longL b), 4), (decide (longL b < b.length), 5),
    (!(sumL (b.take (hdrL b).toNat) == 65535), 20), (decide (32768 ≤ flagsL b), 5), (decide (flagsL b % 16384 ≠ 0), 21), (decide (b.getD 8 0 = 0), 23)]
/-- What is wrong with a packet's bytes, or 0. -/
def errIp (b : List Int) : Int := if 1500 < b.length then 3 else if b.length < 20 then 4 else askE (faultsIp b)
theorem ask7 (x1 x2 x3 x4 x5 x6 x7 : Bool) : askE [(x1, 5), (x2, 4), (x3, 5), (x4, 20), (x5, 5), (x6, 21), (x7, 23)] = 0 ↔ x1 = false ∧ x2 = false ∧ x3 = false ∧ x4 = false ∧ x5 = false ∧ x6 = false ∧ x7 = false := by
  cases x1 <;> cases x2 <;> cases x3 <;> cases x4 <;> cases x5 <;> cases x6 <;> cases x7 <;> decide

/-- A packet's bytes, one by one. -/
theorem packetL_cons (tos id_ : Int) (df : Bool) (ttl proto src dst : Int) (opts payload : List Int) : ∃ z u v : Int, z = 20 + opts.length + payload.length ∧
    packetL tos id_ df ttl proto src dst opts payload = (64 + (20 + (opts.length : Int)) / 4) :: tos :: (z / 256) :: (z % 256) :: (id_ / 256) :: (id_ % 256) :: (flagsOf df / 256) :: (flagsOf df % 256) :: ttl :: proto :: u :: v ::
      (src / 16777216) :: (src / 65536 % 256) :: (src / 256 % 256) :: (src % 256) :: (dst / 16777216) :: (dst / 65536 % 256) :: (dst / 256 % 256) :: (dst % 256) :: (opts ++ payload) :=
  ⟨_, fieldL tos id_ df ttl proto src dst opts (20 + opts.length + payload.length) / 256, fieldL tos id_ df ttl proto src dst opts (20 + opts.length + payload.length) % 256, rfl, by simp [packetL, aheadL, behindL, b16, b32]⟩

/-- Two packets of as many options and one payload, part by part. -/
structure Parts (L L' : List Int) (tos tos' id_ id' : Int) (df df' : Bool) (ttl ttl' proto proto' src src' dst dst' : Int) (m : Nat) : Prop where
  s0 : decide ((L.take 1).drop 0 = (L'.take 1).drop 0) = true
  s1 : decide ((L.take 2).drop 1 = (L'.take 2).drop 1) = (tos == tos')
  s2 : decide ((L.take 4).drop 2 = (L'.take 4).drop 2) = true
  s4 : decide ((L.take 6).drop 4 = (L'.take 6).drop 4) = (id_ == id')
  s6 : decide ((L.take 8).drop 6 = (L'.take 8).drop 6) = (df == df')
  s8 : decide ((L.take 9).drop 8 = (L'.take 9).drop 8) = (ttl == ttl')
  s9 : decide ((L.take 10).drop 9 = (L'.take 10).drop 9) = (proto == proto')
  s12 : decide ((L.take 16).drop 12 = (L'.take 16).drop 12) = (src == src')
  s16 : decide ((L.take 20).drop 16 = (L'.take 20).drop 16) = (dst == dst')
  s20 : decide ((L.take m).drop 20 = (L'.take m).drop 20) = true

theorem parts_of (tos tos' id_ id' : Int) (df df' : Bool) (ttl ttl' proto proto' src src' dst dst' : Int) (opts payload : List Int) (m : Nat) (hm : m = 20 + opts.length + payload.length) :
    Parts (packetL tos id_ df ttl proto src dst opts payload) (packetL tos' id' df' ttl' proto' src' dst' opts payload) tos tos' id_ id' df df' ttl ttl' proto proto' src src' dst dst' m := by
  obtain ⟨z, u, v, rfl, e⟩ := packetL_cons tos id_ df ttl proto src dst opts payload
  obtain ⟨z', u', v', rfl, e'⟩ := packetL_cons tos' id' df' ttl' proto' src' dst' opts payload
  rw [e, e']
  clear e e'
  constructor
  · simp
  · rw [Bool.eq_iff_iff]; simp
  · simp
  · rw [Bool.eq_iff_iff]; simp; omega
  · cases df <;> cases df' <;> simp [flagsOf]
  · rw [Bool.eq_iff_iff]; simp
  · rw [Bool.eq_iff_iff]; simp
  · rw [Bool.eq_iff_iff]; simp; omega
  · rw [Bool.eq_iff_iff]; simp; omega
  · obtain ⟨k, rfl⟩ : ∃ k, m = 20 + k := ⟨m - 20, by omega⟩
    simp [List.drop_take]
theorem packetL_bytes {tos id_ : Int} {df : Bool} {ttl proto src dst : Int} {opts payload : List Int} (h0 : 0 ≤ tos ∧ tos < 256) (h1 : 0 ≤ id_ ∧ id_ < 65536) (h2 : 0 ≤ ttl ∧ ttl < 256) (h3 : 0 ≤ proto ∧ proto < 256) (h4 : 0 ≤ src ∧ src < 4294967296) (h5 : 0 ≤ dst ∧ dst < 4294967296)
    (hk : opts.length ≤ 40) (hl : opts.length + payload.length ≤ 60000) (h : Bytes opts) (h' : Bytes payload) : Bytes (packetL tos id_ df ttl proto src dst opts payload) :=
  (((aheadL_bytes h0 h1 h2 h3 hk (by omega)).app (b16_bytes (fieldL_bd _ _ _ _ _ _ _ _ _))).app (behindL_bytes h4 h5 h)).app h'
end Go.Proofs.YtgcliijngaohdaaDoor
