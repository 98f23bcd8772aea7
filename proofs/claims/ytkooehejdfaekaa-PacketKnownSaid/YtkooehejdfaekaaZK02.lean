/-
  Texts laid together: Bits16, WireLay, SumPlain, Icmp.
-/
import Derived.WalkKit
import Derived.Laws.BitsLemmas
import Derived.Test.YtkooehejdfaekaaZK01
import Derived.Lib.AppendZeros
import Derived.Lib.Hide
import Derived.Deep.LoopGhost
import Derived.LoopTactic
import Derived.Outline

/-
  Small equations on numbers of 16 bits, as a walk leaves them. Nothing of the program.
-/
namespace Go.Proofs.Ytkooehejdfaekaa
set_option maxRecDepth 10000
theorem wrap_u16 (n : Int) : IntKind.u16.wrap n = n % 65536 := by simp [IntKind.wrap, IntKind.bits, IntKind.signed]
theorem wraps_u16 (n : Int) (h₀ : 0 ≤ n) (h₁ : n < 2 ^ 16) : IntKind.u16.wrap n = n := by rw [wrap_u16]; omega
theorem or16 (x y : Int) (hx : 0 ≤ x ∧ x < 256) (hy : 0 ≤ y ∧ y < 256) : bits .or .u16 (x * 256) y = x * 256 + y :=
  bits_join .u16 16 (by decide) wraps_u16 8 (x * 256) y (by omega) (by omega) (by omega) (by omega) (by omega) (by omega)
theorem wraps_u32 (n : Int) (h₀ : 0 ≤ n) (h₁ : n < 2 ^ 32) : IntKind.u32.wrap n = n := by simp [IntKind.wrap, IntKind.bits, IntKind.signed]; omega
theorem or32 (x y : Int) (hx : 0 ≤ x ∧ x < 16777216) (hy : 0 ≤ y ∧ y < 256) : bits .or .u32 (x * 256) y = x * 256 + y :=
  bits_join .u32 32 (by decide) wraps_u32 8 (x * 256) y (by omega) (by omega) (by omega) (by omega) (by omega) (by omega)
theorem not16 (x : Int) (h : 0 ≤ x ∧ x ≤ 65535) : bits .xor .u16 IntKind.u16.max x = 65535 - x := by
  obtain ⟨a, rfl⟩ := Int.eq_ofNat_of_zero_le h.1
  have h2 : (BitVec.ofInt 16 (a : Int)).toNat = a := by
    rw [BitVec.ofInt_natCast, BitVec.toNat_ofNat]; exact Nat.mod_eq_of_lt (by omega)
  have e : IntKind.u16.max = 65535 := by decide
  have h1 : BitVec.ofInt 16 65535 = BitVec.allOnes 16 := by decide
  show IntKind.u16.wrap ((BitVec.ofInt 16 IntKind.u16.max ^^^ BitVec.ofInt 16 (a : Int)).toNat : Int) = _
  rw [e, h1, BitVec.allOnes_xor, BitVec.toNat_not, h2, wrap_u16]
  omega
theorem and16_mask (i : Nat) (hi : i ≤ 16) (x : Int) (h : 0 ≤ x ∧ x < 65536) : bits .and .u16 x (2 ^ i - 1) = x % 2 ^ i := bits_mask .u16 16 (by decide) wraps_u16 i hi x h.1 h.2
theorem nat_and_pow (a i : Nat) : a &&& 2 ^ i = a / 2 ^ i % 2 * 2 ^ i := by
  have h0 : (a &&& 2 ^ i) % 2 ^ i = 0 := by rw [Nat.and_mod_two_pow]; simp
  have h1 : (a &&& 2 ^ i) / 2 ^ i = a / 2 ^ i % 2 := by
    rw [Nat.and_div_two_pow, Nat.div_self (Nat.two_pow_pos i), Nat.and_one_is_mod]
  have := Nat.div_add_mod (a &&& 2 ^ i) (2 ^ i)
  rw [h0, h1] at this
  rw [Nat.mul_comm]; omega
theorem and16_bit (i : Nat) (hi : i < 16) (x : Int) (h : 0 ≤ x ∧ x < 65536) : bits .and .u16 x (2 ^ i) = x / 2 ^ i % 2 * 2 ^ i := by
  obtain ⟨a, rfl⟩ := Int.eq_ofNat_of_zero_le h.1
  have hp : 2 ^ i < 2 ^ 16 := Nat.pow_lt_pow_right (by omega) hi
  have := (bits_nat .u16 16 (by decide) wraps_u16 a (2 ^ i) (by omega) hp).1
  rw [show ((2 : Int) ^ i) = ((2 ^ i : Nat) : Int) by simp, this, nat_and_pow]
  simp
end Go.Proofs.Ytkooehejdfaekaa

/-
  The contracts of slices.Grow (of nil), slices.Concat, and of package wire's U8, U16, U32: a row of bytes of the call's own.
-/
namespace Go.Proofs.Ytkooehejdfaekaa
set_option maxRecDepth 10000
open Go.RowKit

theorem grow_zero (w : World) :
    Calls Try.prog 44 #[.slice none 0 0, .int .i64 0] w (RowIs 0 [] w) := by
  have Ho := Lib.hid (OwnB.nil w w.heap.size)
  go_enter Try.func44, Try.ntmps44
  go_wp2_with fail
  go_ret
  exact ⟨none, 0, rfl, Nat.le_refl _, by simp [maxLen], Ho.out, Below.refl _ _⟩

theorem grow_some (m : Nat) (w : World) (h0 : 0 < m) (hm : m ≤ 140737488355328) :
    Calls Try.prog 44 #[.slice none 0 0, .int .i64 (m : Int)] w (RowIs 0 [] w) := by
  obtain ⟨i0, hi, hz0, hz1, hz2⟩ := info_parts info5
  have hrz := fun ty => Lib.run_append_nil_zeros (P := Try.prog) w 24 3 ty 5 i0 (.int .u8 0) .i64 .i64 Try.underlying24 Try.underlying3 hi hz0 m h0 (by rw [hz1]; decide) (by omega) (by rw [hz2]; omega)
  have hG := grownCap_ge w m 0 5
  have hG2 := grownCap_le_maxLen w m 0 5 (by unfold maxLen; omega)
  obtain ⟨G, eG⟩ : ∃ G, grownCap w m 0 5 = G := ⟨_, rfl⟩
  rw [eG] at hrz hG hG2
  clear eG
  have hG3 : G ≤ 9223372036854775807 := by unfold maxLen at hG2; omega
  have HG2 := Lib.hid hG2
  have h0i : 0 < (m : Int) := by omega
  clear hG2
  go_enter Try.func44, Try.ntmps44
  go_wp2_with (at_builtin; refine Lib.wpList_append_run _ rfl _ _ _ _ rfl _ _ rfl rfl _ _ (hrz _) ?_)
  go_ret
  refine ⟨some ⟨w.heap.size, 0, none⟩, G, rfl, Nat.zero_le _, HG2.out, OwnB.made (cur := Builtin.zeroCells #[.int .u8 0] m ++ Builtin.zeroCells #[.int .u8 0] (G - m)) (heap_alloc_new w _) (Nat.le_refl _) HG2.out ?_, ((Below.refl _ _).alloc (Nat.le_refl _) _).drew⟩
  simp [Builtin.zeroCells]
  omega

theorem grow_nil (m : Nat) (w : World) (hm : m ≤ 140737488355328) :
    Calls Try.prog 44 #[.slice none 0 0, .int .i64 (m : Int)] w (RowIs 0 [] w) := by
  rcases Nat.eq_zero_or_pos m with h | h
  · subst h; exact grow_zero w
  · exact grow_some m w h hm

theorem flat_len_le (ls : List (List Int)) (k : Nat) : (ls.take k).flatten.length ≤ ls.flatten.length := by
  have h : ls.flatten = (ls.take k).flatten ++ (ls.drop k).flatten := by rw [← List.flatten_append, List.take_append_drop]
  rw [h, List.length_append]; omega

theorem concat_any (A : Option Addr) (n c : Nat) (ls : List (List Int)) (w : World) (hn : n ≤ 1000000) (h : RdL w A n ls) (hm : ls.flatten.length ≤ 140737488355328) :
    Calls Try.prog 22 #[.slice A n c] w (RowIs ls.flatten.length ls.flatten w) := by
  obtain ⟨T, hT⟩ : ∃ T, T = ls.flatten.length := ⟨_, rfl⟩
  rw [← hT] at hm ⊢
  have HT := Lib.hid hT
  have Hlen := Lib.hid h.len
  clear hT
  go_enter Try.func22, Try.ntmps22
  go_wp2_with fail
  go_loopg [3, 11] n (fun gk s i wr => ∃ j m : Nat, Hid (gk + j = n) ∧ j ≤ n ∧ i = .int .i64 (j : Int) ∧ m ≤ 140737488355328 ∧ s = .int .i64 (m : Int) ∧ Hid (m = (ls.take j).flatten.length) ∧ w = wr)
  case atStart => exact ⟨0, 0, rfl, Nat.zero_le _, rfl, by omega, rfl, rfl, rfl⟩
  case round =>
    obtain ⟨j, m, hgk, hj, rfl, hmj, rfl, hM, rfl⟩ := hrel
    by_cases hlt : j < n
    · obtain ⟨q, Ai, ci, hrunq, hqb, hcq, hci, hcm, hri⟩ := h.index (c := c) hlt
      have hsum : m + (ls.getD j []).length ≤ 140737488355328 := by
        have h1 := hM.out
        have h2 := flat_take ls j (by rw [Hlen.out]; exact hlt)
        have h3 := flat_len_le ls (j + 1)
        rw [h2, List.length_append, ← h1] at h3
        have := HT.out
        omega
      have Hs := Lib.hid (show m + (ls.getD j []).length = (ls.take (j + 1)).flatten.length by rw [flat_take ls j (by rw [Hlen.out]; exact hlt), List.length_append, ← hM.out])
      obtain ⟨k, ek⟩ : ∃ k, (ls.getD j []).length = k := ⟨_, rfl⟩
      rw [ek] at hcq hsum Hs
      clear hri hci ek
      go_wp2_with fail
      go_roundg (gk - 1)
      case measure => have := hgk.out; omega
      case rel => exact ⟨j + 1, m + k, by have := hgk.out; show gk - 1 + (j + 1) = _; omega, by omega, by go_num, hsum, by go_num, Hs, rfl⟩
    · obtain rfl : j = n := by omega
      have hmT : m = T := by
        have h1 := hM.out
        rw [List.take_of_length_le (by rw [Hlen.out]; exact Nat.le_refl _)] at h1
        rw [h1, HT.out]
      subst hmT
      go_wp2_with fail
      refine (grow_nil m _ hm).mono ?_
      rintro e w1 ⟨A1, c1, rfl, -, -, hown1, hb1⟩
      have hL := h
      have Hown1 := Lib.hid hown1
      have Hb1 := Lib.hid hb1
      clear hown1 hb1 hM hgk hj hmj h
      go_wp2_with fail
      go_loopg [6, 27] j (fun gk2 s i w2 => ∃ (k m2 : Nat) (A2 : Option Addr) (c2 : Nat), Hid (gk2 + k = j) ∧ k ≤ j ∧ i = .int .i64 (k : Int) ∧ m2 ≤ 140737488355328 ∧ s = .slice A2 m2 c2 ∧ Hid (OwnB w2 w.heap.size A2 m2 c2 (ls.take k).flatten) ∧ Below w.heap.size w w2)
      case atStart => exact ⟨0, 0, A1, c1, rfl, Nat.zero_le _, rfl, by omega, rfl, Hown1.out, Hb1.out⟩
      case round =>
        obtain ⟨k, m2, A2, c2, hgk2, hk, rfl, hm2, rfl, hown2, hb2⟩ := hrel
        have hbs := hb2.size
        by_cases hkj : k < j
        · obtain ⟨q, Ai, ci, hrunq, hqb, hcq0, hci, hcm, hri⟩ := hL.index (c := c) hkj
          have hcq : wr.cell? q = some (.slice Ai (ls.getD k []).length ci) := by rw [hb2.cell hqb]; exact hcq0
          have hri2 := hri.below hb2
          have hsum : m2 + (ls.getD k []).length ≤ 140737488355328 := by
            have h1 := hown2.out.len
            have h2 := flat_take ls k (by rw [Hlen.out]; exact hkj)
            have h3 := flat_len_le ls (k + 1)
            rw [h2, List.length_append, h1] at h3
            have := HT.out
            omega
          have Hri := Lib.hid hri2
          have Hf := Lib.hid (flat_take ls k (by rw [Hlen.out]; exact hkj))
          obtain ⟨k2, ek⟩ : ∃ k2, (ls.getD k []).length = k2 := ⟨_, rfl⟩
          rw [ek] at hcq hsum Hri
          clear hri hri2 hci ek hcq0
          go_wp2_with (refine wpList_app rfl (.tmp 31) (.tmp 32) rfl w.heap.size A2 Ai m2 c2 k2 ci _ _ rfl rfl hown2.out Hri.out hsum hbs ?_; intro A3 c3 w3 hown3 _ hb3 _)
          have Hown3 : Hid (OwnB w3 w.heap.size A3 (m2 + k2) c3 (ls.take (k + 1)).flatten) := by
            show OwnB _ _ _ _ _ _
            rw [Hf.out]; exact hown3
          clear hown3
          go_roundg (gk - 1)
          case measure => have := hgk2.out; omega
          case rel => exact ⟨k + 1, m2 + k2, A3, c3, by have := hgk2.out; show gk - 1 + (k + 1) = _; omega, by omega, by go_num, hsum, rfl, Hown3, hb2.trans hb3⟩
        · obtain rfl : k = j := by omega
          have hmm : m2 = m := by
            have h1 := hown2.out.len
            rw [List.take_of_length_le (by rw [Hlen.out]; exact Nat.le_refl _)] at h1
            have := HT.out
            omega
          subst hmm
          go_wp2_with fail
          go_ret
          have ho := hown2.out
          rw [List.take_of_length_le (by rw [Hlen.out]; exact Nat.le_refl _)] at ho
          exact ⟨A2, c2, rfl, ho.cap, ho.capMax, ho, hb2⟩

theorem RdL.twoW (w : World) (t : TypeId) (A A' : Option Addr) (n c n' c' : Nat) (l l' : List Int) (hc : n ≤ c ∧ c ≤ maxLen) (hc' : n' ≤ c' ∧ c' ≤ maxLen) (h : Rd w A n l) (h' : Rd w A' n' l') :
    RdL (w.alloc (.cells #[.slice A n c, .slice A' n' c'] t)) (some ⟨w.heap.size, 0, none⟩) 2 [l, l'] := by
  have hb : Below w.heap.size w (w.alloc (.cells #[.slice A n c, .slice A' n' c'] t)) := (Below.refl _ _).alloc (Nat.le_refl _) _
  refine ⟨rfl, fun _ => ⟨w.heap.size, 0, rfl, by simp, fun i hi => ?_⟩⟩
  have e : ∀ j, (w.alloc (.cells #[.slice A n c, .slice A' n' c'] t)).cell? ⟨w.heap.size, j, none⟩ = #[Value.slice A n c, .slice A' n' c'][j]? := fun j => by rw [World.cell?_alloc_mark]
  match i, hi with
  | 0, _ => exact ⟨A, c, by rw [e]; simp [h.len], by simpa [h.len] using hc.1, hc.2, by simpa [h.len] using h.below hb⟩
  | 1, _ => exact ⟨A', c', by rw [e]; simp [h'.len], by simpa [h'.len] using hc'.1, hc'.2, by simpa [h'.len] using h'.below hb⟩

theorem lay_bytes (A A' : Option Addr) (n c n' c' : Nat) (l l' : List Int) (w : World) (hc : n ≤ c ∧ c ≤ maxLen) (hc' : n' ≤ c' ∧ c' ≤ maxLen) (hm : n + n' ≤ 140737488355328) (h : Rd w A n l) (h' : Rd w A' n' l') :
    Calls Try.prog 45 #[.slice A n c, .slice A' n' c'] w (RowIs (n + n') (l ++ l') w) := by
  have hb := (Below.refl w.heap.size w).alloc (Nat.le_refl _) (.cells #[.slice A n c, .slice A' n' c'] 24)
  have hcc := concat_any (some ⟨w.heap.size, 0, none⟩) 2 2 [l, l'] _ (by omega) (RdL.twoW w 24 A A' n c n' c' l l' hc hc' h h') (by simp [h.len, h'.len]; omega)
  rw [show [l, l'].flatten = l ++ l' by simp, show (l ++ l').length = n + n' by simp [h.len, h'.len]] at hcc
  have Hcc := Lib.hid hcc
  have Hb := Lib.hid hb
  clear hb hcc h h'
  go_enter Try.func45, Try.ntmps45
  go_wp2_with fail
  refine Hcc.out.mono ?_
  rintro e w1 ⟨A1, c1, rfl, h1, h2, hown, hb1⟩
  have Hown := Lib.hid hown
  have Hb1 := Lib.hid hb1
  clear hown hb1
  go_wp2_with fail
  go_ret
  exact ⟨A1, c1, rfl, h1, h2, Hown.out.mono (by simp), below_trans Hb.out Hb1.out⟩

/-- A number's bytes, the highest first. -/
def be16 (x : Int) : List Int := [x / 256, x % 256]
def be32 (x : Int) : List Int := [x / 16777216, x / 65536 % 256, x / 256 % 256, x % 256]
theorem u8_lays (A : Option Addr) (n c : Nat) (l : List Int) (x : Int) (w : World) (hx : 0 ≤ x ∧ x < 256) (hc : n ≤ c ∧ c ≤ maxLen) (hm : n + 1 ≤ 140737488355328) (h : Rd w A n l) :
    Calls Try.prog 42 #[.slice A n c, .int .u8 x] w (RowIs (n + 1) (l ++ [x]) w) := by
  have hb := (Below.refl w.heap.size w).alloc (Nat.le_refl _) (.cells ([x].map (Value.int .u8)).toArray 5)
  have hl := lay_bytes A (some ⟨w.heap.size, 0, none⟩) n c 1 1 l [x] _ hc (by simp [maxLen]) hm (h.below hb) (Rd.const w [x] 5 (0, 0) (by simpa using hx))
  obtain ⟨hx0, hx1⟩ := hx
  have Hl := Lib.hid hl
  have Hb := Lib.hid hb
  clear hb hl h
  go_enter Try.func42, Try.ntmps42
  go_wp2_with fail
  refine Hl.out.mono ?_
  rintro e w1 ⟨A1, c1, rfl, h1, h2, hown, hb1⟩
  have Hown := Lib.hid hown
  have Hb1 := Lib.hid hb1
  clear hown hb1
  go_wp2_with fail
  go_ret
  exact ⟨A1, c1, rfl, h1, h2, Hown.out.mono (by simp), below_trans Hb.out Hb1.out⟩
theorem u16_lays (A : Option Addr) (n c : Nat) (l : List Int) (x : Int) (w : World) (hx : 0 ≤ x ∧ x < 65536) (hc : n ≤ c ∧ c ≤ maxLen) (hm : n + 2 ≤ 140737488355328) (h : Rd w A n l) :
    Calls Try.prog 23 #[.slice A n c, .int .u16 x] w (RowIs (n + 2) (l ++ (be16 x)) w) := by
  have hb := (Below.refl w.heap.size w).alloc (Nat.le_refl _) (.cells ((be16 x).map (Value.int .u8)).toArray 5)
  have hl := lay_bytes A (some ⟨w.heap.size, 0, none⟩) n c 2 2 l (be16 x) _ hc (by simp [maxLen]) hm (h.below hb) (Rd.const w (be16 x) 5 (0, 0) (by unfold be16; simp; omega))
  obtain ⟨hx0, hx1⟩ := hx
  have Hl := Lib.hid hl
  have Hb := Lib.hid hb
  clear hb hl h
  go_enter Try.func23, Try.ntmps23
  go_wp2_with fail
  refine Hl.out.mono ?_
  rintro e w1 ⟨A1, c1, rfl, h1, h2, hown, hb1⟩
  have Hown := Lib.hid hown
  have Hb1 := Lib.hid hb1
  clear hown hb1
  go_wp2_with fail
  go_ret
  exact ⟨A1, c1, rfl, h1, h2, Hown.out.mono (by simp), below_trans Hb.out Hb1.out⟩
theorem u32_lays (A : Option Addr) (n c : Nat) (l : List Int) (x : Int) (w : World) (hx : 0 ≤ x ∧ x < 4294967296) (hc : n ≤ c ∧ c ≤ maxLen) (hm : n + 4 ≤ 140737488355328) (h : Rd w A n l) :
    Calls Try.prog 43 #[.slice A n c, .int .u32 x] w (RowIs (n + 4) (l ++ (be32 x)) w) := by
  have hb := (Below.refl w.heap.size w).alloc (Nat.le_refl _) (.cells ((be32 x).map (Value.int .u8)).toArray 5)
  have hl := lay_bytes A (some ⟨w.heap.size, 0, none⟩) n c 4 4 l (be32 x) _ hc (by simp [maxLen]) hm (h.below hb) (Rd.const w (be32 x) 5 (0, 0) (by unfold be32; simp; omega))
  obtain ⟨hx0, hx1⟩ := hx
  have Hl := Lib.hid hl
  have Hb := Lib.hid hb
  clear hb hl h
  go_enter Try.func43, Try.ntmps43
  go_wp2_with fail
  refine Hl.out.mono ?_
  rintro e w1 ⟨A1, c1, rfl, h1, h2, hown, hb1⟩
  have Hown := Lib.hid hown
  have Hb1 := Lib.hid hb1
  clear hown hb1
  go_wp2_with fail
  go_ret
  exact ⟨A1, c1, rfl, h1, h2, Hown.out.mono (by simp), below_trans Hb.out Hb1.out⟩

end Go.Proofs.Ytkooehejdfaekaa

/-
  Plain lemmas on sums of words of 16 bits: what goes over the greatest word comes in again below; a total, folded; bytes' words. Nothing of the program.
-/
namespace Go.Proofs.Ytkooehejdfaekaa
set_option maxRecDepth 10000

def U16 (x : Int) : Prop := 0 ≤ x ∧ x ≤ 65535
/-- A total, folded to 16 bits: 0 only of 0. -/
def fold16 (n : Int) : Int := if n ≤ 0 then 0 else (n - 1) % 65535 + 1
def add16 (a b : Int) : Int := if 65535 < a + b then a + b - 65535 else a + b
theorem fold_bd (n : Int) : 0 ≤ fold16 n ∧ fold16 n ≤ 65535 := by unfold fold16; split <;> omega
theorem fold_mod (n : Int) (h : 0 ≤ n) : fold16 n % 65535 = n % 65535 := by unfold fold16; split <;> omega
theorem fold_pos (n : Int) (h : 0 < n) : 0 < fold16 n := by unfold fold16; split <;> omega
theorem fold_zero : fold16 0 = 0 := rfl
theorem add_fold (n b : Int) (hn : 0 ≤ n) (hb : U16 b) : add16 (fold16 n) b = fold16 (n + b) := by
  unfold U16 at hb
  unfold add16 fold16; (repeat' split) <;> omega
/-- Two fields that are the same but that 0 and ffff are one. -/
def likeB (a b : Int) : Bool := decide (a = b) || (decide (a = 0) && decide (b = 65535)) || (decide (a = 65535) && decide (b = 0))
theorem like_of (a b : Int) (ha : U16 a) (hb : U16 b) (h : a % 65535 = b % 65535) : likeB a b = true := by
  unfold U16 at ha hb
  unfold likeB
  simp
  omega
theorem like_mod (a b : Int) (h : likeB a b = true) : a % 65535 = b % 65535 := by
  unfold likeB at h
  simp at h
  omega

/-- All words of bytes, added up (not folded); 'true': the first byte is a word's second one. -/
def ws : Bool → List Int → Int
  | _, [] => 0
  | false, x :: l => 256 * x + ws true l
  | true, x :: l => x + ws false l
def Bytes (l : List Int) : Prop := ∀ x ∈ l, 0 ≤ x ∧ x < 256
def sumL (l : List Int) : Int := fold16 (ws false l)
theorem ws_append (p : Bool) (a b : List Int) : ws p (a ++ b) = ws p a + ws (xor p (decide (a.length % 2 = 1))) b := by
  induction a generalizing p with
  | nil => simp [ws]
  | cons x a ih =>
    have h : decide ((a.length + 1) % 2 = 1) = !decide (a.length % 2 = 1) := by
      by_cases h : a.length % 2 = 1
      · simp [h]; omega
      · simp [h]; omega
    cases p
    · simp only [List.cons_append, ws, ih, List.length_cons, h]
      cases decide (a.length % 2 = 1) <;> simp <;> omega
    · simp only [List.cons_append, ws, ih, List.length_cons, h]
      cases decide (a.length % 2 = 1) <;> simp <;> omega
theorem ws_even (a b : List Int) (h : a.length % 2 = 0) : ws false (a ++ b) = ws false a + ws false b := by
  rw [ws_append]; simp [show ¬ a.length % 2 = 1 by omega]
theorem ws_nn (l : List Int) (h : Bytes l) (p : Bool) : 0 ≤ ws p l := by
  induction l generalizing p with
  | nil => simp [ws]
  | cons x l ih =>
    have hx := h x (by simp)
    have hl : Bytes l := fun y hy => h y (by simp [hy])
    have h1 := ih hl true
    have h2 := ih hl false
    cases p <;> simp only [ws] <;> omega
theorem sumL_bd (l : List Int) : 0 ≤ sumL l ∧ sumL l ≤ 65535 := fold_bd _
theorem Bytes.app {a b : List Int} (h : Bytes a) (k : Bytes b) : Bytes (a ++ b) := fun x hx => by
  rcases List.mem_append.1 hx with h' | h'
  · exact h x h'
  · exact k x h'

/-- How far the words of the bytes d have been added: the sum, the byte that waits, whether one does. -/
structure St (d : List Int) (acc first : Int) (waits : Bool) : Prop where
  w : waits = decide (d.length % 2 = 1)
  a : acc = fold16 (ws false d - (if waits then 256 * first else 0))
  f : 0 ≤ first ∧ first < 256
  n : 0 ≤ ws false d - (if waits then 256 * first else 0)
theorem St.nil : St [] 0 0 false := ⟨by decide, by decide, by decide, by decide⟩
theorem St.bd {d : List Int} {acc first : Int} {waits : Bool} (h : St d acc first waits) : 0 ≤ acc ∧ acc ≤ 65535 := by rw [h.a]; exact fold_bd _
theorem St.one {d : List Int} {acc first : Int} (h : St d acc first true) {b : Int} (hb : 0 ≤ b ∧ b < 256) : St (d ++ [b]) (add16 acc (first * 256 + b)) b false := by
  obtain ⟨h1, h2, h3, h4⟩ := h
  have ho : d.length % 2 = 1 := by simpa using h1.symm
  have e : ws false (d ++ [b]) = ws false d + b := by rw [ws_append]; simp [ho, ws]
  simp only [if_true] at h2 h4
  refine ⟨?_, ?_, hb, ?_⟩
  · simp; omega
  · rw [h2, add_fold _ _ h4 (by unfold U16; omega), e]
    simp only [Bool.false_eq_true, if_false]
    congr 1; omega
  · rw [e]; simp only [Bool.false_eq_true, if_false]; omega
theorem St.two {d : List Int} {acc first : Int} (h : St d acc first false) {b : Int} (hb : 0 ≤ b ∧ b < 256) : St (d ++ [b]) acc b true := by
  obtain ⟨h1, h2, h3, h4⟩ := h
  have ho : ¬ d.length % 2 = 1 := by simpa using h1.symm
  have e : ws false (d ++ [b]) = ws false d + 256 * b := by rw [ws_append]; simp [ho, ws]
  simp only [Bool.false_eq_true, if_false] at h2 h4
  refine ⟨?_, ?_, hb, ?_⟩
  · simp; omega
  · rw [h2, e]
    simp only [if_true]
    congr 1; omega
  · rw [e]; simp only [if_true]; omega
theorem St.end1 {d : List Int} {acc first : Int} (h : St d acc first true) : add16 acc (first * 256) = sumL d := by
  obtain ⟨h1, h2, h3, h4⟩ := h
  simp only [if_true] at h2 h4
  rw [h2, add_fold _ _ h4 (by unfold U16; omega)]
  unfold sumL
  congr 1; omega
theorem St.end0 {d : List Int} {acc first : Int} (h : St d acc first false) : acc = sumL d := by
  obtain ⟨h1, h2, h3, h4⟩ := h
  simp only [Bool.false_eq_true, if_false] at h2
  rw [h2]
  unfold sumL
  congr 1; omega

end Go.Proofs.Ytkooehejdfaekaa

/-
  ICMP messages (api.Message), plainly: their bytes, what is read, sorts, ids. No function of the program.
-/
namespace Go.Proofs.Ytkooehejdfaekaa
set_option maxRecDepth 10000
open Go.RowKit

/-- A message as numbers. -/
structure Msg where
  ty : Int
  cd : Int
  rs : Int
  d : List Int
structure MsgNum (s : Msg) : Prop where
  ty : 0 ≤ s.ty ∧ s.ty < 256
  cd : 0 ≤ s.cd ∧ s.cd < 256
  rs : 0 ≤ s.rs ∧ s.rs < 4294967296
def zeroM : Msg := ⟨0, 0, 0, []⟩
/-- All but the field. -/
def headM (s : Msg) : List Int := [s.ty, s.cd]
def tailM (s : Msg) : List Int := be32 s.rs ++ s.d
def fieldM (s : Msg) : Int := 65535 - sumL (headM s ++ (be16 0 ++ tailM s))
/-- A message's bytes. -/
def msgB (s : Msg) : List Int := headM s ++ (be16 (fieldM s) ++ tailM s)
def msgSame (s t : Msg) : Bool := decide (s.ty = t.ty) && (decide (s.cd = t.cd) && (decide (s.rs = t.rs) && decide (s.d = t.d)))
theorem msgB_len (s : Msg) : (msgB s).length = 8 + s.d.length := by simp [msgB, headM, tailM, be16, be32]; omega
theorem fieldM_bd (s : Msg) : 0 ≤ fieldM s ∧ fieldM s ≤ 65535 := by unfold fieldM; have := sumL_bd (headM s ++ (be16 0 ++ tailM s)); omega
theorem be16_by {x : Int} (h : 0 ≤ x ∧ x < 65536) : ∀ y ∈ be16 x, 0 ≤ y ∧ y < 256 := by intro y hy; simp [be16] at hy; omega
theorem be32_by {x : Int} (h : 0 ≤ x ∧ x < 4294967296) : ∀ y ∈ be32 x, 0 ≤ y ∧ y < 256 := by intro y hy; simp [be32] at hy; omega
theorem headM_by {s : Msg} (h : MsgNum s) : ∀ y ∈ headM s, 0 ≤ y ∧ y < 256 := by have := h.ty; have := h.cd; intro y hy; simp [headM] at hy; omega
theorem tailM_by {s : Msg} (h : MsgNum s) (hd : ∀ x ∈ s.d, 0 ≤ x ∧ x < 256) : ∀ y ∈ tailM s, 0 ≤ y ∧ y < 256 := Bytes.app (be32_by h.rs) hd
theorem laidM_by {s : Msg} (h : MsgNum s) (hd : ∀ x ∈ s.d, 0 ≤ x ∧ x < 256) {f : Int} (hf : 0 ≤ f ∧ f < 65536) : ∀ y ∈ headM s ++ (be16 f ++ tailM s), 0 ≤ y ∧ y < 256 := Bytes.app (headM_by h) (Bytes.app (be16_by hf) (tailM_by h hd))
theorem msgB_by {s : Msg} (h : MsgNum s) (hd : ∀ x ∈ s.d, 0 ≤ x ∧ x < 256) : ∀ y ∈ msgB s, 0 ≤ y ∧ y < 256 := by
  have := fieldM_bd s
  exact laidM_by h hd (by omega)
theorem ws_b16 (x : Int) : ws false (be16 x) = x := by simp [be16, ws]; omega
end Go.Proofs.Ytkooehejdfaekaa
