/-
  Cookies as numbers: mixing, the hash, classes, what a cookie says. Nothing of the program.
-/
import Derived.WalkKit
import Derived.Laws.BitsLemmas
import Derived.Laws.Bits64
import Derived.Test.YtgcliijngaohdaaDoorTup
namespace Go.Proofs.YtgcliijngaohdaaDoor
set_option maxRecDepth 10000
set_option linter.unusedSimpArgs false
set_option linter.unusedVariables false

def U64C (x : Int) : Prop := 0 ≤ x ∧ x < 18446744073709551616
theorem xorC_bd {a b : Int} (ha : U64C a) (hb : U64C b) : U64C (bits .xor .u64 a b) := by
  obtain ⟨x, rfl⟩ := Int.eq_ofNat_of_zero_le ha.1
  obtain ⟨y, rfl⟩ := Int.eq_ofNat_of_zero_le hb.1
  have hx : x < 18446744073709551616 := by have := ha.2; omega
  have hy : y < 18446744073709551616 := by have := hb.2; omega
  rw [bits_xor_u64_nat x y hx hy]
  have : x ^^^ y < 2 ^ 64 := Nat.xor_lt_two_pow (by omega) (by omega)
  exact ⟨by omega, by omega⟩
theorem wrapC_bd (a : Int) : U64C (IntKind.u64.wrap a) := by rw [IntKind.wrap_u64]; exact ⟨by omega, by omega⟩
theorem divC_bd {a : Int} (h : U64C a) (k : Int) (hk : 0 < k) : U64C (a / k) :=
  ⟨Int.ediv_nonneg h.1 (by omega), Int.lt_of_le_of_lt (Int.ediv_le_self _ h.1) h.2⟩
/-- A number, mixed, in its three steps. -/
def mixA (x : Int) : Int := IntKind.u64.wrap (bits .xor .u64 x (x / 1073741824) * 13787848793156543929)
def mixB (x : Int) : Int := IntKind.u64.wrap (bits .xor .u64 x (x / 134217728) * 10723151780598845931)
def mixD (x : Int) : Int := bits .xor .u64 x (x / 2147483648)
def mixC (x : Int) : Int := mixD (mixB (mixA x))
theorem mixD_bd {x : Int} (h : U64C x) : U64C (mixD x) := xorC_bd h (divC_bd h _ (by decide))
theorem mixC_bd (x : Int) : U64C (mixC x) := mixD_bd (wrapC_bd _)
/-- The register behind each of what is mixed. -/
def hash1 (key : Int) (t : Tu) : Int := mixC (bits .xor .u64 key t.pr)
def hash2 (key : Int) (t : Tu) : Int := mixC (bits .xor .u64 (hash1 key t) (t.sr * 4294967296 + t.ds))
def hash3 (key : Int) (t : Tu) : Int := mixC (bits .xor .u64 (hash2 key t) (t.sp * 65536 + t.dp))
def hash4 (key : Int) (t : Tu) (cl : Int) : Int := mixC (bits .xor .u64 (hash3 key t) cl)
def hashC (key : Int) (t : Tu) (cl ep : Int) : Int := mixC (bits .xor .u64 (hash4 key t cl) ep)
theorem hashC_bd (key : Int) (t : Tu) (cl ep : Int) : U64C (hashC key t cl ep) := mixC_bd _
/-- The highest 24 bits. -/
def hiC (key : Int) (t : Tu) (cl ep : Int) : Int := hashC key t cl ep / 1099511627776
theorem hiC_bd (key : Int) (t : Tu) (cl ep : Int) : 0 ≤ hiC key t cl ep ∧ hiC key t cl ep < 16777216 := by
  have h := hashC_bd key t cl ep
  unfold U64C at h
  unfold hiC
  omega
/-- The classes. -/
def szC (c : Int) : Int := if c = 0 then 88 else if c = 1 then 216 else if c = 2 then 536 else if c = 3 then 1024 else if c = 4 then 1220 else if c = 5 then 1360 else if c = 6 then 1440 else if c = 7 then 1460 else 0
def szE (c : Int) : Int := if 0 ≤ c ∧ c ≤ 7 then 0 else 1
def clsI (m : Int) : Int := if 1460 ≤ m then 7 else if 1440 ≤ m then 6 else if 1360 ≤ m then 5 else if 1220 ≤ m then 4 else if 1024 ≤ m then 3 else if 536 ≤ m then 2 else if 216 ≤ m then 1 else 0
def clsB (m : Int) : Bool := decide (88 ≤ m)
theorem szE_cases (c : Int) : (szE c = 0 ∧ 0 ≤ c ∧ c ≤ 7) ∨ (szE c = 1 ∧ szC c = 0 ∧ ¬ (0 ≤ c ∧ c ≤ 7)) := by
  unfold szE
  by_cases h : 0 ≤ c ∧ c ≤ 7
  · left; rw [if_pos h]; exact ⟨rfl, h⟩
  · right
    rw [if_neg h]
    refine ⟨rfl, ?_, h⟩
    unfold szC
    rw [if_neg (by omega), if_neg (by omega), if_neg (by omega), if_neg (by omega), if_neg (by omega), if_neg (by omega), if_neg (by omega), if_neg (by omega)]
theorem cls_bd (m : Int) : 0 ≤ clsI m ∧ clsI m ≤ 7 := by unfold clsI; repeat' split; all_goals omega
/-- P17.6: the class of a number is the greatest one whose number is not above it. -/
theorem cls_size (m : Int) (h : 0 ≤ m) : (clsB m = true → szC (clsI m) ≤ m ∧ (clsI m < 7 → m < szC (clsI m + 1))) ∧ (clsB m = false → clsI m = 0 ∧ m < 88) := by
  unfold clsB clsI szC
  by_cases h1 : 88 ≤ m
  · rw [decide_eq_true h1]
    refine ⟨fun _ => ?_, fun hc => by cases hc⟩
    by_cases e7 : 1460 ≤ m
    · simp [e7]
    by_cases e6 : 1440 ≤ m
    · simp [e7, e6]; omega
    by_cases e5 : 1360 ≤ m
    · simp [e7, e6, e5]; omega
    by_cases e4 : 1220 ≤ m
    · simp [e7, e6, e5, e4]; omega
    by_cases e3 : 1024 ≤ m
    · simp [e7, e6, e5, e4, e3]; omega
    by_cases e2 : 536 ≤ m
    · simp [e7, e6, e5, e4, e3, e2]; omega
    by_cases e1 : 216 ≤ m
    · simp [e7, e6, e5, e4, e3, e2, e1]; omega
    · simp [e7, e6, e5, e4, e3, e2, e1]; omega
  · rw [decide_eq_false h1]
    refine ⟨fun hc => (by cases hc), fun _ => ⟨?_, by omega⟩⟩
    rw [if_neg (by omega), if_neg (by omega), if_neg (by omega), if_neg (by omega), if_neg (by omega), if_neg (by omega), if_neg (by omega)]
/-- P17.6: of each class's number the class is told, and of one less the one ahead. -/
theorem size_cls (c : Int) (h : 0 ≤ c ∧ c ≤ 7) : clsI (szC c) = c ∧ clsB (szC c) = true ∧ clsB (szC c - 1) = decide (0 < c) ∧ (0 < c → clsI (szC c - 1) = c - 1) ∧ 88 ≤ szC c ∧ szC c ≤ 1460 := by
  have hc : c = 0 ∨ c = 1 ∨ c = 2 ∨ c = 3 ∨ c = 4 ∨ c = 5 ∨ c = 6 ∨ c = 7 := by omega
  rcases hc with rfl | rfl | rfl | rfl | rfl | rfl | rfl | rfl <;> decide
/-- What the lowest eight bits say. -/
def encC (c : Int) (k : Bool) (s : Int) : Int := c * 32 + (if k then 16 else 0) + (if s = -1 then 15 else s)
def dCls (n : Int) : Int := n % 256 / 32
def dSck (n : Int) : Bool := decide (n / 16 % 2 = 1)
def dScl (n : Int) : Int := if n % 16 = 15 then -1 else n % 16
theorem enc_bd {c s : Int} (k : Bool) (hc : 0 ≤ c ∧ c ≤ 7) (hs : -1 ≤ s ∧ s ≤ 14) : 0 ≤ encC c k s ∧ encC c k s < 256 := by
  unfold encC
  cases k <;> by_cases h : s = -1 <;> simp [h] <;> omega
theorem dec_enc {c s : Int} (k : Bool) (hc : 0 ≤ c ∧ c ≤ 7) (hs : -1 ≤ s ∧ s ≤ 14) (x : Int) (hx : x % 256 = encC c k s) : dCls x = c ∧ dSck x = k ∧ dScl x = s := by
  unfold encC at hx
  unfold dCls dSck dScl
  obtain ⟨g, hg⟩ : ∃ g : Int, (if s = -1 then 15 else s) = g := ⟨_, rfl⟩
  have hg1 : 0 ≤ g ∧ g ≤ 15 ∧ (g = 15 → s = -1) ∧ (g ≠ 15 → s = g) := by
    by_cases h : s = -1
    · rw [if_pos h] at hg; omega
    · rw [if_neg h] at hg; omega
  rw [hg] at hx
  have hcl : (if x % 16 = 15 then -1 else x % 16) = s ↔ x % 16 = g := by
    by_cases h : x % 16 = 15
    · rw [if_pos h]; omega
    · rw [if_neg h]; omega
  cases k with
  | false =>
    rw [if_neg (by simp)] at hx
    exact ⟨by omega, decide_eq_false (by omega), hcl.2 (by omega)⟩
  | true =>
    rw [if_pos rfl] at hx
    exact ⟨by omega, decide_eq_true (by omega), hcl.2 (by omega)⟩
theorem dec_may (x : Int) (hx : 0 ≤ x) : (0 ≤ dCls x ∧ dCls x ≤ 7) ∧ (-1 ≤ dScl x ∧ dScl x ≤ 14) := by
  unfold dCls dScl
  refine ⟨by omega, ?_⟩
  split <;> omega
theorem enc_dec (x : Int) (hx : 0 ≤ x) : encC (dCls x) (dSck x) (dScl x) = x % 256 := by
  unfold encC dCls dSck dScl
  have hg : (if (if x % 16 = 15 then -1 else x % 16) = -1 then 15 else (if x % 16 = 15 then -1 else x % 16)) = x % 16 := by
    by_cases h : x % 16 = 15
    · rw [if_pos h, if_pos rfl, h]
    · rw [if_neg h, if_neg (by omega)]
  rw [hg]
  by_cases h2 : x / 16 % 2 = 1
  · rw [decide_eq_true h2, if_pos rfl]; omega
  · rw [decide_eq_false h2, if_neg (by simp)]; omega
/-- Make and Check. -/
def mayC (c s : Int) : Prop := (0 ≤ c ∧ c ≤ 7) ∧ (-1 ≤ s ∧ s ≤ 14)
instance (c s : Int) : Decidable (mayC c s) := inferInstanceAs (Decidable (_ ∧ _))
def makeE (c s : Int) : Int := if mayC c s then 0 else 1
def makeV (key : Int) (t : Tu) (cl tick c : Int) (k : Bool) (s : Int) : Int := if mayC c s then hiC key t cl (tick / 64) * 256 + encC c k s else 0
def isC (key : Int) (t : Tu) (cl tick ck : Int) : Bool := decide (hiC key t cl (tick / 64) = ck / 256) || (decide (0 < tick / 64) && decide (hiC key t cl (tick / 64 - 1) = ck / 256))
theorem makeV_bd (key : Int) (t : Tu) (cl tick c : Int) (k : Bool) (s : Int) : 0 ≤ makeV key t cl tick c k s ∧ makeV key t cl tick c k s < 4294967296 := by
  unfold makeV
  have h := hiC_bd key t cl (tick / 64)
  by_cases hm : mayC c s
  · rw [if_pos hm]
    have := enc_bd k hm.1 hm.2
    omega
  · rw [if_neg hm]; omega
theorem make_parts (key : Int) (t : Tu) (cl tick c : Int) (k : Bool) (s : Int) (h : mayC c s) : makeV key t cl tick c k s / 256 = hiC key t cl (tick / 64) ∧ makeV key t cl tick c k s % 256 = encC c k s := by
  unfold makeV
  have := enc_bd k h.1 h.2
  rw [if_pos h]
  omega
/-- P17.4: up to 64 ticks behind. -/
theorem is_back (key : Int) (t : Tu) (cl tick b ck : Int) (ht : 0 ≤ tick) (hb : 0 ≤ b ∧ b ≤ 64) (hc : ck / 256 = hiC key t cl (tick / 64)) : isC key t cl (tick + b) ck = true := by
  unfold isC
  have he : (tick + b) / 64 = tick / 64 ∨ (tick + b) / 64 = tick / 64 + 1 := by omega
  rcases he with e | e
  · rw [e, hc]; simp
  · rw [e, hc, show tick / 64 + 1 - 1 = tick / 64 by omega]
    simp
    right; omega
end Go.Proofs.YtgcliijngaohdaaDoor
