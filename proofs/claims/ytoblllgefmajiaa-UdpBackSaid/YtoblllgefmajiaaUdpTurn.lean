/-
  Plain mathematics of a datagram's bytes of which one word is turned. No function of the program.
-/
import Derived.Test.YtoblllgefmajiaaUdpPlain
import Derived.Laws.BitsLemmas
namespace Go.Proofs.Ytoblllgefmajiaa
set_option maxRecDepth 10000
open Go.RowKit

theorem n16_word (b : List Int) (k : Nat) : n16 b (2 * k) = wordL b k := rfl
theorem lay_ok (src dst : Int) (s : Dg) : errU src dst (layL (dgB src dst s) 3 0) = (if 1472 < s.d.length then 3 else 0) ∧ dgOf (layL (dgB src dst s) 3 0) = s := by
  have hlen := dgB_len src dst s
  have h2 : n16 (layL (dgB src dst s) 3 0) 4 = 8 + (s.d.length : Int) := by
    rw [show (4 : Nat) = 2 * 2 from rfl, n16_word, wordL_lay_other _ _ _ _ (by decide), ← n16_word]; exact n16_len src dst s
  have h3 : n16 (layL (dgB src dst s) 3 0) 6 = 0 := by
    rw [show (6 : Nat) = 2 * 3 from rfl, n16_word, wordL_lay_same _ _ _ (by omega)]
  refine ⟨?_, ?_⟩
  · unfold errU
    rw [layL_len, hlen, h2, h3]
    by_cases h : 1472 < s.d.length
    · rw [if_pos (by omega), if_pos h]
    · rw [if_neg (by omega), if_neg h, if_neg (by omega), if_neg (by omega), if_neg (by simp)]
  · rw [show layL (dgB src dst s) 3 0 = s.sp / 256 :: s.sp % 256 :: s.dp / 256 :: s.dp % 256 :: (8 + (s.d.length : Int)) / 256 :: (8 + (s.d.length : Int)) % 256 :: 0 :: 0 :: s.d by rw [dgB_list]; rfl]
    obtain ⟨sp, dp, d⟩ := s
    simp only [dgOf, n16, List.getD_cons_zero, List.getD_cons_succ, List.drop_succ_cons, List.drop_zero, Dg.mk.injEq]
    simp
    omega
theorem lay_bad (src dst : Int) (s : Dg) (j : Nat) (x : Int) (hs : 0 ≤ src ∧ src < 4294967296) (hd : 0 ≤ dst ∧ dst < 4294967296) (hl : s.d.length ≤ 1472) (hr : 0 ≤ restU s) (_hx : 0 ≤ x) (hj : 2 * j + 1 < 8 + s.d.length) (h2 : j ≠ 2) (h3 : j = 3 → x ≠ 0) (hL : ∀ y ∈ dgB src dst s, 0 ≤ y ∧ y < 256)
    (hne : (x - wordL (dgB src dst s) j) % 65535 ≠ 0) : errU src dst (layL (dgB src dst s) j x) = 20 := by
  have hlen := dgB_len src dst s
  have hm := fieldU_mod src dst s hs hd hl hr
  have hb : 0 < fieldU src dst s ∧ fieldU src dst s < 65536 := fldU_bd _
  have e2 : n16 (layL (dgB src dst s) j x) 4 = 8 + (s.d.length : Int) := by
    rw [show (4 : Nat) = 2 * 2 from rfl, n16_word, wordL_lay_other _ _ _ _ h2, ← n16_word]; exact n16_len src dst s
  have e3 : n16 (layL (dgB src dst s) j x) 6 ≠ 0 := by
    rw [show (6 : Nat) = 2 * 3 from rfl, n16_word]
    by_cases h : j = 3
    · subst h
      rw [wordL_lay_same _ _ _ (by omega)]; exact h3 rfl
    · rw [wordL_lay_other _ _ _ _ h, ← n16_word]
      have : n16 (dgB src dst s) (2 * 3) = fieldU src dst s := n16_field src dst s
      omega
  have hw := wordL_bd (l := dgB src dst s) hL j
  have hrn := restL_nn (l := dgB src dst s) hL j (by omega)
  have hwr := ws_rest (dgB src dst s) j
  unfold U16 at hw
  have h20 : sumL (pseudoL src dst 17 ((8 + s.d.length : Nat) : Int) ++ layL (dgB src dst s) j x) ≠ 65535 := by
    unfold sumL
    rw [ws_even _ _ (pseudo_even _ _ _ _), ws_pseudoU _ _ _ _ hs hd (by omega), ws_lay _ _ _ (by omega)]
    rw [ws_dgB] at hwr ⊢
    intro hh
    have := (fold_right _).1 hh
    omega
  unfold errU
  rw [layL_len, hlen, e2, if_neg (by omega), if_neg (by omega), if_neg (by omega), if_pos ⟨e3, h20⟩]

theorem bits_xor_nat (k : IntKind) (j : Nat) (hj : j ≤ k.bits) (hk : ∀ n : Int, 0 ≤ n → n < 2 ^ j → k.wrap n = n) (a b : Nat) (ha : a < 2 ^ j) (hb : b < 2 ^ j) : bits .xor k a b = ((a ^^^ b : Nat) : Int) := by
  have hp : 2 ^ j ≤ 2 ^ k.bits := Nat.pow_le_pow_right (by decide) hj
  have ha' : a % 2 ^ k.bits = a := Nat.mod_eq_of_lt (Nat.lt_of_lt_of_le ha hp)
  have hb' : b % 2 ^ k.bits = b := Nat.mod_eq_of_lt (Nat.lt_of_lt_of_le hb hp)
  have cast : ∀ n : Nat, n < 2 ^ j → ((n : Nat) : Int) < 2 ^ j := fun n h => by exact_mod_cast h
  simp only [bits, BitVec.ofInt_natCast, BitVec.toNat_xor, BitVec.toNat_ofNat, ha', hb']
  exact hk _ (Int.natCast_nonneg _) (cast _ (Nat.xor_lt_two_pow ha hb))
/-- Xor of words of 16 bits, byte by byte. -/
theorem nat_xor_div (a b : Nat) : (a ^^^ b) / 256 = a / 256 ^^^ b / 256 := by
  rw [show (256 : Nat) = 2 ^ 8 by rfl, Nat.xor_div_two_pow]
theorem nat_xor_mod (a b : Nat) : (a ^^^ b) % 256 = a % 256 ^^^ b % 256 := by
  rw [show (256 : Nat) = 2 ^ 8 by rfl, Nat.xor_mod_two_pow]
theorem wraps_u8' (n : Int) (h₀ : 0 ≤ n) (h₁ : n < 2 ^ 8) : IntKind.u8.wrap n = n := by simp [IntKind.wrap, IntKind.bits, IntKind.signed]; omega
theorem xor16 (a b : Int) (ha : 0 ≤ a ∧ a < 65536) (hb : 0 ≤ b ∧ b < 65536) : ∃ x : Int, bits .xor .u16 a b = x ∧ (0 ≤ x ∧ x < 65536) ∧ bits .xor .u8 (a / 256) (b / 256) = x / 256 ∧ bits .xor .u8 (a % 256) (b % 256) = x % 256 ∧ (x = a ↔ b = 0) := by
  obtain ⟨m, rfl⟩ := Int.eq_ofNat_of_zero_le ha.1
  obtain ⟨n, rfl⟩ := Int.eq_ofNat_of_zero_le hb.1
  have k16 := bits_xor_nat .u16 16 (by decide) wraps_u16 m n (by omega) (by omega)
  have k8 := bits_xor_nat .u8 8 (by decide) wraps_u8' (m / 256) (n / 256) (by omega) (by omega)
  have k8' := bits_xor_nat .u8 8 (by decide) wraps_u8' (m % 256) (n % 256) (by omega) (by omega)
  have hlt : m ^^^ n < 2 ^ 16 := Nat.xor_lt_two_pow (by omega) (by omega)
  refine ⟨((m ^^^ n : Nat) : Int), k16, by omega, ?_, ?_, ?_⟩
  · have e := nat_xor_div m n
    rw [show ((m : Int) / 256) = ((m / 256 : Nat) : Int) by simp, show ((n : Int) / 256) = ((n / 256 : Nat) : Int) by simp, k8, ← e]; simp
  · have e := nat_xor_mod m n
    rw [show ((m : Int) % 256) = ((m % 256 : Nat) : Int) by simp, show ((n : Int) % 256) = ((n % 256 : Nat) : Int) by simp, k8', ← e]; simp
  · constructor
    · intro h
      have h1 : m ^^^ n = m := by exact_mod_cast h
      have h2 : m ^^^ (m ^^^ n) = m ^^^ m := by rw [h1]
      rw [← Nat.xor_assoc, Nat.xor_self, Nat.zero_xor] at h2
      omega
    · intro h
      have : n = 0 := by omega
      subst this
      simp
end Go.Proofs.Ytoblllgefmajiaa
