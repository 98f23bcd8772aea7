/-
  Texts laid together: Bits16, WireLay, Icmp, InQ.
-/
import Derived.WalkKit
import Derived.Laws.BitsLemmas
import Derived.Test.YtoegfgbalcholaaGreatZT03
import Derived.Lib.AppendZeros
import Derived.Lib.Hide
import Derived.Deep.LoopGhost
import Derived.LoopTactic
import Derived.Outline
import Derived.Test.YtoegfgbalcholaaGreatZT01
import Derived.Test.YtoegfgbalcholaaGreatZT02

/-
  Small equations on numbers of 16 bits, as a walk leaves them. Nothing of the program.
-/
namespace Go.Proofs.YtoegfgbalcholaaGreat
set_option maxRecDepth 10000
theorem wrap_u16 (n : Int) : IntKind.u16.wrap n = n % 65536 := by simp [IntKind.wrap, IntKind.bits, IntKind.signed]
theorem wraps_u16 (n : Int) (h₀ : 0 ≤ n) (h₁ : n < 2 ^ 16) : IntKind.u16.wrap n = n := by rw [wrap_u16]; omega
theorem or16 (x y : Int) (hx : 0 ≤ x ∧ x < 256) (hy : 0 ≤ y ∧ y < 256) : bits .or .u16 (x * 256) y = x * 256 + y :=
  bits_join .u16 16 (by decide) wraps_u16 8 (x * 256) y (by omega) (by omega) (by omega) (by omega) (by omega) (by omega)
theorem wraps_u32 (n : Int) (h₀ : 0 ≤ n) (h₁ : n < 2 ^ 32) : IntKind.u32.wrap n = n := by simp [IntKind.wrap, IntKind.bits, IntKind.signed]; omega
theorem or32 (x y : Int) (hx : 0 ≤ x ∧ x < 16777216) (hy : 0 ≤ y ∧ y < 256) : bits .or .u32 (x * 256) y = x * 256 + y :=
  bits_join .u32 32 (by decide) wraps_u32 8 (x * 256) y (by omega) (by omega) (by omega) (by omega) (by omega) (by omega)
theorem not16 (x : Int) (h : 0 ≤ x ∧ x ≤ 65535) : bits .xor .u16 IntKind.u16.max x = 65535 - x := by
  obtain ⟨a, rfl⟩ := Int.eq_ofNat_of_zero_le h.1
  have h2 : (BitVec.ofInt 16 (a : Int)).toNat = a := by
    rw [BitVec.ofInt_natCast, BitVec.toNat_ofNat]; exact Nat.mod_eq_of_lt (by omega)
  have e : IntKind.u16.max = 65535 := by decide
  have h1 : BitVec.ofInt 16 65535 = BitVec.allOnes 16 := by decide
  show IntKind.u16.wrap ((BitVec.ofInt 16 IntKind.u16.max ^^^ BitVec.ofInt 16 (a : Int)).toNat : Int) = _
  rw [e, h1, BitVec.allOnes_xor, BitVec.toNat_not, h2, wrap_u16]
  omega
theorem and16_mask (i : Nat) (hi : i ≤ 16) (x : Int) (h : 0 ≤ x ∧ x < 65536) : bits .and .u16 x (2 ^ i - 1) = x % 2 ^ i := bits_mask .u16 16 (by decide) wraps_u16 i hi x h.1 h.2
theorem nat_and_pow (a i : Nat) : a &&& 2 ^ i = a / 2 ^ i % 2 * 2 ^ i := by
  have h0 : (a &&& 2 ^ i) % 2 ^ i = 0 := by rw [Nat.and_mod_two_pow]; simp
  have h1 : (a &&& 2 ^ i) / 2 ^ i = a / 2 ^ i % 2 := by
    rw [Nat.and_div_two_pow, Nat.div_self (Nat.two_pow_pos i), Nat.and_one_is_mod]
  have := Nat.div_add_mod (a &&& 2 ^ i) (2 ^ i)
  rw [h0, h1] at this
  rw [Nat.mul_comm]; omega
theorem and16_bit (i : Nat) (hi : i < 16) (x : Int) (h : 0 ≤ x ∧ x < 65536) : bits .and .u16 x (2 ^ i) = x / 2 ^ i % 2 * 2 ^ i := by
  obtain ⟨a, rfl⟩ := Int.eq_ofNat_of_zero_le h.1
  have hp : 2 ^ i < 2 ^ 16 := Nat.pow_lt_pow_right (by omega) hi
  have := (bits_nat .u16 16 (by decide) wraps_u16 a (2 ^ i) (by omega) hp).1
  rw [show ((2 : Int) ^ i) = ((2 ^ i : Nat) : Int) by simp, this, nat_and_pow]
  simp
end Go.Proofs.YtoegfgbalcholaaGreat

/-
  The contracts of slices.Grow (of nil), slices.Concat, and of package wire's U8, U16, U32: a row of bytes of the call's own.
-/
namespace Go.Proofs.YtoegfgbalcholaaGreat
set_option maxRecDepth 10000
open Go.RowKit

theorem grow_zero (w : World) :
    Calls Tryz.prog 92 #[.slice none 0 0, .int .i64 0] w (RowIs 0 [] w) := by
  have Ho := Lib.hid (OwnB.nil w w.heap.size)
  go_enter Tryz.func92, Tryz.ntmps92
  go_wp2_with fail
  go_ret
  exact ⟨none, 0, rfl, Nat.le_refl _, by simp [maxLen], Ho.out, Below.refl _ _⟩

theorem grow_some (m : Nat) (w : World) (h0 : 0 < m) (hm : m ≤ 140737488355328) :
    Calls Tryz.prog 92 #[.slice none 0 0, .int .i64 (m : Int)] w (RowIs 0 [] w) := by
  obtain ⟨i0, hi, hz0, hz1, hz2⟩ := info_parts info5
  have hrz := fun ty => Lib.run_append_nil_zeros (P := Tryz.prog) w 24 3 ty 5 i0 (.int .u8 0) .i64 .i64 Tryz.underlying24 Tryz.underlying3 hi hz0 m h0 (by rw [hz1]; decide) (by omega) (by rw [hz2]; omega)
  have hG := grownCap_ge w m 0 5
  have hG2 := grownCap_le_maxLen w m 0 5 (by unfold maxLen; omega)
  obtain ⟨G, eG⟩ : ∃ G, grownCap w m 0 5 = G := ⟨_, rfl⟩
  rw [eG] at hrz hG hG2
  clear eG
  have hG3 : G ≤ 9223372036854775807 := by unfold maxLen at hG2; omega
  have HG2 := Lib.hid hG2
  have h0i : 0 < (m : Int) := by omega
  clear hG2
  go_enter Tryz.func92, Tryz.ntmps92
  go_wp2_with (at_builtin; refine Lib.wpList_append_run _ rfl _ _ _ _ rfl _ _ rfl rfl _ _ (hrz _) ?_)
  go_ret
  refine ⟨some ⟨w.heap.size, 0, none⟩, G, rfl, Nat.zero_le _, HG2.out, OwnB.made (cur := Builtin.zeroCells #[.int .u8 0] m ++ Builtin.zeroCells #[.int .u8 0] (G - m)) (heap_alloc_new w _) (Nat.le_refl _) HG2.out ?_, ((Below.refl _ _).alloc (Nat.le_refl _) _).drew⟩
  simp [Builtin.zeroCells]
  omega

theorem grow_nil (m : Nat) (w : World) (hm : m ≤ 140737488355328) :
    Calls Tryz.prog 92 #[.slice none 0 0, .int .i64 (m : Int)] w (RowIs 0 [] w) := by
  rcases Nat.eq_zero_or_pos m with h | h
  · subst h; exact grow_zero w
  · exact grow_some m w h hm

theorem flat_len_le (ls : List (List Int)) (k : Nat) : (ls.take k).flatten.length ≤ ls.flatten.length := by
  have h : ls.flatten = (ls.take k).flatten ++ (ls.drop k).flatten := by rw [← List.flatten_append, List.take_append_drop]
  rw [h, List.length_append]; omega

theorem concat_any (A : Option Addr) (n c : Nat) (ls : List (List Int)) (w : World) (hn : n ≤ 1000000) (h : RdL w A n ls) (hm : ls.flatten.length ≤ 140737488355328) :
    Calls Tryz.prog 43 #[.slice A n c] w (RowIs ls.flatten.length ls.flatten w) := by
  obtain ⟨T, hT⟩ : ∃ T, T = ls.flatten.length := ⟨_, rfl⟩
  rw [← hT] at hm ⊢
  have HT := Lib.hid hT
  have Hlen := Lib.hid h.len
  clear hT
  go_enter Tryz.func43, Tryz.ntmps43
  go_wp2_with fail
  go_loopg [3, 11] n (fun gk s i wr => ∃ j m : Nat, Hid (gk + j = n) ∧ j ≤ n ∧ i = .int .i64 (j : Int) ∧ m ≤ 140737488355328 ∧ s = .int .i64 (m : Int) ∧ Hid (m = (ls.take j).flatten.length) ∧ w = wr)
  case atStart => exact ⟨0, 0, rfl, Nat.zero_le _, rfl, by omega, rfl, rfl, rfl⟩
  case round =>
    obtain ⟨j, m, hgk, hj, rfl, hmj, rfl, hM, rfl⟩ := hrel
    by_cases hlt : j < n
    · obtain ⟨q, Ai, ci, hrunq, hqb, hcq, hci, hcm, hri⟩ := h.index (c := c) hlt
      have hsum : m + (ls.getD j []).length ≤ 140737488355328 := by
        have h1 := hM.out
        have h2 := flat_take ls j (by rw [Hlen.out]; exact hlt)
        have h3 := flat_len_le ls (j + 1)
        rw [h2, List.length_append, ← h1] at h3
        have := HT.out
        omega
      have Hs := Lib.hid (show m + (ls.getD j []).length = (ls.take (j + 1)).flatten.length by rw [flat_take ls j (by rw [Hlen.out]; exact hlt), List.length_append, ← hM.out])
      obtain ⟨k, ek⟩ : ∃ k, (ls.getD j []).length = k := ⟨_, rfl⟩
      rw [ek] at hcq hsum Hs
      clear hri hci ek
      go_wp2_with fail
      go_roundg (gk - 1)
      case measure => have := hgk.out; omega
      case rel => exact ⟨j + 1, m + k, by have := hgk.out; show gk - 1 + (j + 1) = _; omega, by omega, by go_num, hsum, by go_num, Hs, rfl⟩
    · obtain rfl : j = n := by omega
      have hmT : m = T := by
        have h1 := hM.out
        rw [List.take_of_length_le (by rw [Hlen.out]; exact Nat.le_refl _)] at h1
        rw [h1, HT.out]
      subst hmT
      go_wp2_with fail
      refine (grow_nil m _ hm).mono ?_
      rintro e w1 ⟨A1, c1, rfl, -, -, hown1, hb1⟩
      have hL := h
      have Hown1 := Lib.hid hown1
      have Hb1 := Lib.hid hb1
      clear hown1 hb1 hM hgk hj hmj h
      go_wp2_with fail
      go_loopg [6, 27] j (fun gk2 s i w2 => ∃ (k m2 : Nat) (A2 : Option Addr) (c2 : Nat), Hid (gk2 + k = j) ∧ k ≤ j ∧ i = .int .i64 (k : Int) ∧ m2 ≤ 140737488355328 ∧ s = .slice A2 m2 c2 ∧ Hid (OwnB w2 w.heap.size A2 m2 c2 (ls.take k).flatten) ∧ Below w.heap.size w w2)
      case atStart => exact ⟨0, 0, A1, c1, rfl, Nat.zero_le _, rfl, by omega, rfl, Hown1.out, Hb1.out⟩
      case round =>
        obtain ⟨k, m2, A2, c2, hgk2, hk, rfl, hm2, rfl, hown2, hb2⟩ := hrel
        have hbs := hb2.size
        by_cases hkj : k < j
        · obtain ⟨q, Ai, ci, hrunq, hqb, hcq0, hci, hcm, hri⟩ := hL.index (c := c) hkj
          have hcq : wr.cell? q = some (.slice Ai (ls.getD k []).length ci) := by rw [hb2.cell hqb]; exact hcq0
          have hri2 := hri.below hb2
          have hsum : m2 + (ls.getD k []).length ≤ 140737488355328 := by
            have h1 := hown2.out.len
            have h2 := flat_take ls k (by rw [Hlen.out]; exact hkj)
            have h3 := flat_len_le ls (k + 1)
            rw [h2, List.length_append, h1] at h3
            have := HT.out
            omega
          have Hri := Lib.hid hri2
          have Hf := Lib.hid (flat_take ls k (by rw [Hlen.out]; exact hkj))
          obtain ⟨k2, ek⟩ : ∃ k2, (ls.getD k []).length = k2 := ⟨_, rfl⟩
          rw [ek] at hcq hsum Hri
          clear hri hri2 hci ek hcq0
          go_wp2_with (refine wpList_app rfl (.tmp 31) (.tmp 32) rfl w.heap.size A2 Ai m2 c2 k2 ci _ _ rfl rfl hown2.out Hri.out hsum hbs ?_; intro A3 c3 w3 hown3 _ hb3 _)
          have Hown3 : Hid (OwnB w3 w.heap.size A3 (m2 + k2) c3 (ls.take (k + 1)).flatten) := by
            show OwnB _ _ _ _ _ _
            rw [Hf.out]; exact hown3
          clear hown3
          go_roundg (gk - 1)
          case measure => have := hgk2.out; omega
          case rel => exact ⟨k + 1, m2 + k2, A3, c3, by have := hgk2.out; show gk - 1 + (k + 1) = _; omega, by omega, by go_num, hsum, rfl, Hown3, hb2.trans hb3⟩
        · obtain rfl : k = j := by omega
          have hmm : m2 = m := by
            have h1 := hown2.out.len
            rw [List.take_of_length_le (by rw [Hlen.out]; exact Nat.le_refl _)] at h1
            have := HT.out
            omega
          subst hmm
          go_wp2_with fail
          go_ret
          have ho := hown2.out
          rw [List.take_of_length_le (by rw [Hlen.out]; exact Nat.le_refl _)] at ho
          exact ⟨A2, c2, rfl, ho.cap, ho.capMax, ho, hb2⟩

theorem RdL.twoW (w : World) (t : TypeId) (A A' : Option Addr) (n c n' c' : Nat) (l l' : List Int) (hc : n ≤ c ∧ c ≤ maxLen) (hc' : n' ≤ c' ∧ c' ≤ maxLen) (h : Rd w A n l) (h' : Rd w A' n' l') :
    RdL (w.alloc (.cells #[.slice A n c, .slice A' n' c'] t)) (some ⟨w.heap.size, 0, none⟩) 2 [l, l'] := by
  have hb : Below w.heap.size w (w.alloc (.cells #[.slice A n c, .slice A' n' c'] t)) := (Below.refl _ _).alloc (Nat.le_refl _) _
  refine ⟨rfl, fun _ => ⟨w.heap.size, 0, rfl, by simp, fun i hi => ?_⟩⟩
  have e : ∀ j, (w.alloc (.cells #[.slice A n c, .slice A' n' c'] t)).cell? ⟨w.heap.size, j, none⟩ = #[Value.slice A n c, .slice A' n' c'][j]? := fun j => by rw [World.cell?_alloc_mark]
  match i, hi with
  | 0, _ => exact ⟨A, c, by rw [e]; simp [h.len], by simpa [h.len] using hc.1, hc.2, by simpa [h.len] using h.below hb⟩
  | 1, _ => exact ⟨A', c', by rw [e]; simp [h'.len], by simpa [h'.len] using hc'.1, hc'.2, by simpa [h'.len] using h'.below hb⟩

theorem lay_bytes (A A' : Option Addr) (n c n' c' : Nat) (l l' : List Int) (w : World) (hc : n ≤ c ∧ c ≤ maxLen) (hc' : n' ≤ c' ∧ c' ≤ maxLen) (hm : n + n' ≤ 140737488355328) (h : Rd w A n l) (h' : Rd w A' n' l') :
    Calls Tryz.prog 91 #[.slice A n c, .slice A' n' c'] w (RowIs (n + n') (l ++ l') w) := by
  have hb := (Below.refl w.heap.size w).alloc (Nat.le_refl _) (.cells #[.slice A n c, .slice A' n' c'] 24)
  have hcc := concat_any (some ⟨w.heap.size, 0, none⟩) 2 2 [l, l'] _ (by omega) (RdL.twoW w 24 A A' n c n' c' l l' hc hc' h h') (by simp [h.len, h'.len]; omega)
  rw [show [l, l'].flatten = l ++ l' by simp, show (l ++ l').length = n + n' by simp [h.len, h'.len]] at hcc
  have Hcc := Lib.hid hcc
  have Hb := Lib.hid hb
  clear hb hcc h h'
  go_enter Tryz.func91, Tryz.ntmps91
  go_wp2_with fail
  refine Hcc.out.mono ?_
  rintro e w1 ⟨A1, c1, rfl, h1, h2, hown, hb1⟩
  have Hown := Lib.hid hown
  have Hb1 := Lib.hid hb1
  clear hown hb1
  go_wp2_with fail
  go_ret
  exact ⟨A1, c1, rfl, h1, h2, Hown.out.mono (by simp), below_trans Hb.out Hb1.out⟩

/-- A number's bytes, the highest first. -/
def be16 (x : Int) : List Int := [x / 256, x % 256]
def be32 (x : Int) : List Int := [x / 16777216, x / 65536 % 256, x / 256 % 256, x % 256]
theorem u8_lays (A : Option Addr) (n c : Nat) (l : List Int) (x : Int) (w : World) (hx : 0 ≤ x ∧ x < 256) (hc : n ≤ c ∧ c ≤ maxLen) (hm : n + 1 ≤ 140737488355328) (h : Rd w A n l) :
    Calls Tryz.prog 102 #[.slice A n c, .int .u8 x] w (RowIs (n + 1) (l ++ [x]) w) := by
  have hb := (Below.refl w.heap.size w).alloc (Nat.le_refl _) (.cells ([x].map (Value.int .u8)).toArray 5)
  have hl := lay_bytes A (some ⟨w.heap.size, 0, none⟩) n c 1 1 l [x] _ hc (by simp [maxLen]) hm (h.below hb) (Rd.const w [x] 5 (0, 0) (by simpa using hx))
  obtain ⟨hx0, hx1⟩ := hx
  have Hl := Lib.hid hl
  have Hb := Lib.hid hb
  clear hb hl h
  go_enter Tryz.func102, Tryz.ntmps102
  go_wp2_with fail
  refine Hl.out.mono ?_
  rintro e w1 ⟨A1, c1, rfl, h1, h2, hown, hb1⟩
  have Hown := Lib.hid hown
  have Hb1 := Lib.hid hb1
  clear hown hb1
  go_wp2_with fail
  go_ret
  exact ⟨A1, c1, rfl, h1, h2, Hown.out.mono (by simp), below_trans Hb.out Hb1.out⟩
theorem u16_lays (A : Option Addr) (n c : Nat) (l : List Int) (x : Int) (w : World) (hx : 0 ≤ x ∧ x < 65536) (hc : n ≤ c ∧ c ≤ maxLen) (hm : n + 2 ≤ 140737488355328) (h : Rd w A n l) :
    Calls Tryz.prog 44 #[.slice A n c, .int .u16 x] w (RowIs (n + 2) (l ++ (be16 x)) w) := by
  have hb := (Below.refl w.heap.size w).alloc (Nat.le_refl _) (.cells ((be16 x).map (Value.int .u8)).toArray 5)
  have hl := lay_bytes A (some ⟨w.heap.size, 0, none⟩) n c 2 2 l (be16 x) _ hc (by simp [maxLen]) hm (h.below hb) (Rd.const w (be16 x) 5 (0, 0) (by unfold be16; simp; omega))
  obtain ⟨hx0, hx1⟩ := hx
  have Hl := Lib.hid hl
  have Hb := Lib.hid hb
  clear hb hl h
  go_enter Tryz.func44, Tryz.ntmps44
  go_wp2_with fail
  refine Hl.out.mono ?_
  rintro e w1 ⟨A1, c1, rfl, h1, h2, hown, hb1⟩
  have Hown := Lib.hid hown
  have Hb1 := Lib.hid hb1
  clear hown hb1
  go_wp2_with fail
  go_ret
  exact ⟨A1, c1, rfl, h1, h2, Hown.out.mono (by simp), below_trans Hb.out Hb1.out⟩
theorem u32_lays (A : Option Addr) (n c : Nat) (l : List Int) (x : Int) (w : World) (hx : 0 ≤ x ∧ x < 4294967296) (hc : n ≤ c ∧ c ≤ maxLen) (hm : n + 4 ≤ 140737488355328) (h : Rd w A n l) :
    Calls Tryz.prog 41 #[.slice A n c, .int .u32 x] w (RowIs (n + 4) (l ++ (be32 x)) w) := by
  have hb := (Below.refl w.heap.size w).alloc (Nat.le_refl _) (.cells ((be32 x).map (Value.int .u8)).toArray 5)
  have hl := lay_bytes A (some ⟨w.heap.size, 0, none⟩) n c 4 4 l (be32 x) _ hc (by simp [maxLen]) hm (h.below hb) (Rd.const w (be32 x) 5 (0, 0) (by unfold be32; simp; omega))
  obtain ⟨hx0, hx1⟩ := hx
  have Hl := Lib.hid hl
  have Hb := Lib.hid hb
  clear hb hl h
  go_enter Tryz.func41, Tryz.ntmps41
  go_wp2_with fail
  refine Hl.out.mono ?_
  rintro e w1 ⟨A1, c1, rfl, h1, h2, hown, hb1⟩
  have Hown := Lib.hid hown
  have Hb1 := Lib.hid hb1
  clear hown hb1
  go_wp2_with fail
  go_ret
  exact ⟨A1, c1, rfl, h1, h2, Hown.out.mono (by simp), below_trans Hb.out Hb1.out⟩

end Go.Proofs.YtoegfgbalcholaaGreat

/-
  ICMP messages (api.Message), plainly: their bytes, what is read, sorts, ids. No function of the program.
-/
namespace Go.Proofs.YtoegfgbalcholaaGreat
set_option maxRecDepth 10000
open Go.RowKit

/-- A message as numbers. -/
structure Msg where
  ty : Int
  cd : Int
  rs : Int
  d : List Int
structure MsgNum (s : Msg) : Prop where
  ty : 0 ≤ s.ty ∧ s.ty < 256
  cd : 0 ≤ s.cd ∧ s.cd < 256
  rs : 0 ≤ s.rs ∧ s.rs < 4294967296
def zeroM : Msg := ⟨0, 0, 0, []⟩
/-- All but the field. -/
def headM (s : Msg) : List Int := [s.ty, s.cd]
def tailM (s : Msg) : List Int := be32 s.rs ++ s.d
def fieldM (s : Msg) : Int := 65535 - sumL (headM s ++ (be16 0 ++ tailM s))
/-- A message's bytes. -/
def msgB (s : Msg) : List Int := headM s ++ (be16 (fieldM s) ++ tailM s)
def m32 (b : List Int) (i : Nat) : Int := ((b.getD i 0 * 256 + b.getD (i + 1) 0) * 256 + b.getD (i + 2) 0) * 256 + b.getD (i + 3) 0
def errM (b : List Int) : Int := if 1480 < b.length then 3 else if b.length < 8 then 4 else if sumL b = 65535 then 0 else 20
def msgOf (b : List Int) : Msg := ⟨b.getD 0 0, b.getD 1 0, m32 b 4, b.drop 8⟩
def msgSame (s t : Msg) : Bool := decide (s.ty = t.ty) && (decide (s.cd = t.cd) && (decide (s.rs = t.rs) && decide (s.d = t.d)))
/-- 1: asked, 2: told, 3: an error, 0: other. -/
def sortM (ty cd : Int) : Int := if ty = 8 ∧ cd = 0 then 1 else if ty = 0 ∧ cd = 0 then 2 else if ty = 3 ∨ ty = 11 ∨ ty = 12 then 3 else 0
def echoM (ty cd : Int) : Bool := decide ((ty = 8 ∨ ty = 0) ∧ cd = 0)
/-- A message with another id. -/
def withM (s : Msg) (id : Int) : Msg := if echoM s.ty s.cd = true then ⟨s.ty, s.cd, 65536 * id + s.rs % 65536, s.d⟩ else s
theorem msgB_len (s : Msg) : (msgB s).length = 8 + s.d.length := by simp [msgB, headM, tailM, be16, be32]; omega
theorem fieldM_bd (s : Msg) : 0 ≤ fieldM s ∧ fieldM s ≤ 65535 := by unfold fieldM; have := sumL_bd (headM s ++ (be16 0 ++ tailM s)); omega
theorem be16_by {x : Int} (h : 0 ≤ x ∧ x < 65536) : ∀ y ∈ be16 x, 0 ≤ y ∧ y < 256 := by intro y hy; simp [be16] at hy; omega
theorem be32_by {x : Int} (h : 0 ≤ x ∧ x < 4294967296) : ∀ y ∈ be32 x, 0 ≤ y ∧ y < 256 := by intro y hy; simp [be32] at hy; omega
theorem headM_by {s : Msg} (h : MsgNum s) : ∀ y ∈ headM s, 0 ≤ y ∧ y < 256 := by have := h.ty; have := h.cd; intro y hy; simp [headM] at hy; omega
theorem tailM_by {s : Msg} (h : MsgNum s) (hd : ∀ x ∈ s.d, 0 ≤ x ∧ x < 256) : ∀ y ∈ tailM s, 0 ≤ y ∧ y < 256 := Bytes.app (be32_by h.rs) hd
theorem laidM_by {s : Msg} (h : MsgNum s) (hd : ∀ x ∈ s.d, 0 ≤ x ∧ x < 256) {f : Int} (hf : 0 ≤ f ∧ f < 65536) : ∀ y ∈ headM s ++ (be16 f ++ tailM s), 0 ≤ y ∧ y < 256 := Bytes.app (headM_by h) (Bytes.app (be16_by hf) (tailM_by h hd))
theorem msgB_by {s : Msg} (h : MsgNum s) (hd : ∀ x ∈ s.d, 0 ≤ x ∧ x < 256) : ∀ y ∈ msgB s, 0 ≤ y ∧ y < 256 := by
  have := fieldM_bd s
  exact laidM_by h hd (by omega)
theorem msgB_list (s : Msg) : msgB s = s.ty :: s.cd :: fieldM s / 256 :: fieldM s % 256 :: s.rs / 16777216 :: s.rs / 65536 % 256 :: s.rs / 256 % 256 :: s.rs % 256 :: s.d := by simp [msgB, headM, tailM, be16, be32]
theorem msgOf_msgB {s : Msg} (h : MsgNum s) : msgOf (msgB s) = s := by
  obtain ⟨ty, cd, rs, d⟩ := s
  have hr := h.rs
  rw [msgB_list]
  simp only [msgOf, m32, List.getD, List.drop_succ_cons, List.drop_zero, List.getElem?_cons_zero, List.getElem?_cons_succ, Option.getD_some] at hr ⊢
  congr 1
  omega

/-- What the words but the field come to. -/
def restM (s : Msg) : Int := ws false (headM s) + ws false (tailM s)
theorem restM_nn {s : Msg} (h : MsgNum s) (hd : ∀ x ∈ s.d, 0 ≤ x ∧ x < 256) : 0 ≤ restM s := by
  have h1 := ws_nn _ (headM_by h) false
  have h2 := ws_nn _ (tailM_by h hd) false
  unfold restM; omega
theorem ws_b16 (x : Int) : ws false (be16 x) = x := by simp [be16, ws]; omega
theorem ws_laidM (s : Msg) (f : Int) : ws false (headM s ++ (be16 f ++ tailM s)) = restM s + f := by
  rw [ws_even _ _ (by simp [headM]), ws_even _ _ (by simp [be16]), ws_b16]
  unfold restM; omega
theorem fieldM_eq (s : Msg) : fieldM s = 65535 - fold16 (restM s) := by unfold fieldM sumL; rw [ws_laidM]; simp
theorem sum_msgB {s : Msg} (h : MsgNum s) (hd : ∀ x ∈ s.d, 0 ≤ x ∧ x < 256) : sumL (msgB s) = 65535 := by
  have h0 := restM_nn h hd
  unfold sumL msgB
  rw [ws_laidM, fieldM_eq]
  generalize restM s = r at *
  unfold fold16
  split <;> split <;> omega
theorem err_msgB {s : Msg} (h : MsgNum s) (hd : ∀ x ∈ s.d, 0 ≤ x ∧ x < 256) (hl : s.d.length ≤ 1472) : errM (msgB s) = 0 := by
  unfold errM
  rw [msgB_len, if_neg (by omega), if_neg (by omega), if_pos (sum_msgB h hd)]
theorem errM_zero {b : List Int} (h : errM b = 0) : b.length ≤ 1480 ∧ 8 ≤ b.length ∧ sumL b = 65535 := by
  unfold errM at h
  by_cases h1 : 1480 < b.length
  · rw [if_pos h1] at h; omega
  by_cases h2 : b.length < 8
  · rw [if_neg h1, if_pos h2] at h; omega
  by_cases h3 : sumL b = 65535
  · exact ⟨by omega, by omega, h3⟩
  · rw [if_neg h1, if_neg h2, if_neg h3] at h; omega
theorem eightM (b : List Int) (h : 8 ≤ b.length) : ∃ b0 b1 b2 b3 b4 b5 b6 b7 l, b = b0 :: b1 :: b2 :: b3 :: b4 :: b5 :: b6 :: b7 :: l := by
  match b, h with
  | b0 :: b1 :: b2 :: b3 :: b4 :: b5 :: b6 :: b7 :: l, _ => exact ⟨_, _, _, _, _, _, _, _, _, rfl⟩
theorem msgOf_num {b : List Int} (hb : ∀ x ∈ b, 0 ≤ x ∧ x < 256) (h8 : 8 ≤ b.length) : MsgNum (msgOf b) ∧ (∀ x ∈ (msgOf b).d, 0 ≤ x ∧ x < 256) := by
  refine ⟨?_, fun x hx => hb x (List.mem_of_mem_drop hx)⟩
  obtain ⟨b0, b1, b2, b3, b4, b5, b6, b7, l, rfl⟩ := eightM b h8
  simp only [List.mem_cons, forall_eq_or_imp] at hb
  obtain ⟨q0, q1, q2, q3, q4, q5, q6, q7, -⟩ := hb
  exact ⟨q0, q1, by simp [msgOf, m32]; omega⟩
end Go.Proofs.YtoegfgbalcholaaGreat

/-
  What a quote says and becomes, in plain lists (stage 16, written ahead): nothing of the program.
-/
namespace Go.Proofs.YtoegfgbalcholaaGreat
set_option maxRecDepth 10000
set_option linter.unusedSimpArgs false
set_option linter.unusedVariables false

theorem getD_byteQ {l : List Int} (h : Bytes l) (i : Nat) : 0 ≤ l.getD i 0 ∧ l.getD i 0 < 256 := by
  by_cases hj : i < l.length
  · simp only [List.getD, List.getElem?_eq_getElem hj, Option.getD_some]
    exact h _ (List.getElem_mem hj)
  · simp [List.getD, List.getElem?_eq_none (by omega : l.length ≤ i)]
/-- A field follows a word. -/
def fldQ (c : List Int) (f : Nat) (was x : Int) : List Int := layL c f (wordF (wordL c f) was x)
/-- A word becomes another one, and the fields follow. -/
def chQ (fs : List Nat) (b : List Int) (k : Nat) (x : Int) : List Int := fs.foldl (fun c f => fldQ c f (wordL b k) x) (layL b k x)
/-- What may be changed: bytes, places that are there. -/
structure MayQ (fs : List Nat) (b : List Int) (k : Nat) (x : Int) : Prop where
  byte : Bytes b
  in_ : 2 * k + 1 < b.length
  u : U16 x
  fin : ∀ f ∈ fs, 2 * f + 1 < b.length ∧ f ≠ k
  nod : fs.Nodup
theorem fold_len (was x : Int) : ∀ (fs : List Nat) (c : List Int), (fs.foldl (fun c f => fldQ c f was x) c).length = c.length
  | [], _ => rfl
  | f :: fs, c => by rw [List.foldl_cons, fold_len was x fs]; exact layL_len _ _ _
theorem fold_byte {was x : Int} (hw : U16 was) (hx : U16 x) : ∀ (fs : List Nat) {c : List Int}, Bytes c → Bytes (fs.foldl (fun c f => fldQ c f was x) c)
  | [], _, h => h
  | f :: fs, c, h => by
    rw [List.foldl_cons]
    exact fold_byte hw hx fs (layL_byte h f (wordF_bd _ _ _ (wordL_bd h f) hw hx))
theorem fold_getD (was x : Int) : ∀ (fs : List Nat) (c : List Int) (i : Nat), i / 2 ∉ fs → (fs.foldl (fun c f => fldQ c f was x) c).getD i 0 = c.getD i 0
  | [], _, _, _ => rfl
  | f :: fs, c, i, h => by
    rw [List.foldl_cons, fold_getD was x fs _ i (fun hm => h (List.mem_cons_of_mem _ hm))]
    exact getD_lay _ _ _ _ (fun e => h (by rw [e]; exact List.mem_cons_self ..))
theorem fold_word (was x : Int) (fs : List Nat) (c : List Int) (j : Nat) (h : j ∉ fs) : wordL (fs.foldl (fun c f => fldQ c f was x) c) j = wordL c j := by
  unfold wordL
  rw [fold_getD was x fs c (2 * j) (by rwa [show 2 * j / 2 = j by omega]), fold_getD was x fs c (2 * j + 1) (by rwa [show (2 * j + 1) / 2 = j by omega])]
theorem fold_fld {was x : Int} : ∀ (fs : List Nat) (c : List Int) (f : Nat), f ∈ fs → fs.Nodup → (∀ g ∈ fs, 2 * g + 1 < c.length) → (wordL (fs.foldl (fun c f => fldQ c f was x) c) f) % 65535 = (wordL c f + was - x) % 65535
  | [], _, _, h, _, _ => by cases h
  | g :: fs, c, f, h, hn, hl => by
    rw [List.foldl_cons]
    obtain ⟨hg, hn'⟩ := List.nodup_cons.1 hn
    by_cases e : f = g
    · subst e
      rw [fold_word was x fs _ f hg]
      unfold fldQ
      rw [wordL_lay_same _ _ _ (hl f (List.mem_cons_self ..))]
      exact wordF_mod _ _ _
    · rcases List.mem_cons.1 h with h | h
      · exact absurd h e
      · rw [fold_fld fs _ f h hn' (fun k hk => by unfold fldQ; rw [layL_len]; exact hl k (List.mem_cons_of_mem _ hk))]
        unfold fldQ
        rw [wordL_lay_other _ _ _ _ (fun e2 => e e2.symm)]
theorem chQ_len (fs : List Nat) (b : List Int) (k : Nat) (x : Int) : (chQ fs b k x).length = b.length := by unfold chQ; rw [fold_len, layL_len]
theorem MayQ.bytes {fs : List Nat} {b : List Int} {k : Nat} {x : Int} (h : MayQ fs b k x) : Bytes (chQ fs b k x) := fold_byte (wordL_bd h.byte k) h.u fs (layL_byte h.byte k h.u)
theorem MayQ.far {fs : List Nat} {b : List Int} {k : Nat} {x : Int} (h : MayQ fs b k x) {i : Nat} (hi : i / 2 ∉ fs) (hk : i / 2 ≠ k) : (chQ fs b k x).getD i 0 = b.getD i 0 := by
  unfold chQ; rw [fold_getD _ _ _ _ _ hi, getD_lay _ _ _ _ hk]
theorem MayQ.same {fs : List Nat} {b : List Int} {k : Nat} {x : Int} (h : MayQ fs b k x) : wordL (chQ fs b k x) k = x := by
  unfold chQ; rw [fold_word _ _ _ _ _ (fun hm => (h.fin k hm).2 rfl), wordL_lay_same _ _ _ h.in_]
theorem MayQ.other {fs : List Nat} {b : List Int} {k : Nat} {x : Int} (h : MayQ fs b k x) {j : Nat} (hj : j ∉ fs) (hk : j ≠ k) : wordL (chQ fs b k x) j = wordL b j := by
  unfold chQ; rw [fold_word _ _ _ _ _ hj, wordL_lay_other _ _ _ _ (fun e => hk e.symm)]
theorem MayQ.fld {fs : List Nat} {b : List Int} {k : Nat} {x : Int} (h : MayQ fs b k x) {f : Nat} (hf : f ∈ fs) : wordL (chQ fs b k x) f % 65535 = (wordL b f + wordL b k - x) % 65535 := by
  unfold chQ
  rw [fold_fld fs _ f hf h.nod (fun g hg => by rw [layL_len]; exact (h.fin g hg).1), wordL_lay_other _ _ _ _ (fun e => (h.fin f hf).2 e.symm)]
/-- The word of the payload's field; where it is; what follows. -/
def qF (pr : Int) (H : Nat) : Nat := if pr = 6 then H + 8 else if pr = 17 then H + 3 else H + 1
def qH (b : List Int) : Nat := 2 * (b.getD 0 0 % 16).toNat
def partQ (b : List Int) : List Nat := if 2 * qF (b.getD 9 0) (qH b) + 2 ≤ b.length ∧ ¬ (b.getD 9 0 = 17 ∧ wordL b (qF (b.getD 9 0) (qH b)) = 0) then [qF (b.getD 9 0) (qH b)] else []
def bothQ (b : List Int) : List Nat := 5 :: (if b.getD 9 0 = 1 then [] else partQ b)
/-- What a quote says. -/
def qSeq (b : List Int) : Int := if b.getD 9 0 = 6 then wordL b (qH b + 2) * 65536 + wordL b (qH b + 3) else 0
def qTu (b : List Int) : Tu := ⟨b.getD 9 0, wordL b 6 * 65536 + wordL b 7, wordL b 8 * 65536 + wordL b 9, if b.getD 9 0 = 1 then wordL b (qH b + 2) else wordL b (qH b), if b.getD 9 0 = 1 then 0 else wordL b (qH b + 1)⟩
def errQ (b : List Int) : Int :=
  if b.length < 20 then 4
  else if b.getD 0 0 / 16 ≠ 4 ∨ qH b < 10 then 5
  else if b.length < 2 * qH b + 8 then 4
  else if wordL b 3 % 8192 ≠ 0 then 21
  else if b.getD 9 0 = 6 ∨ b.getD 9 0 = 17 then 0
  else if b.getD 9 0 = 1 ∧ echoM (b.getD (2 * qH b) 0) (b.getD (2 * qH b + 1) 0) = true then 0
  else 22
theorem errQ_ok {b : List Int} (h : errQ b = 0) : (b.getD 0 0 / 16 = 4 ∧ 10 ≤ qH b ∧ 2 * qH b + 8 ≤ b.length ∧ wordL b 3 % 8192 = 0) ∧ (b.getD 9 0 = 6 ∨ b.getD 9 0 = 17 ∨ (b.getD 9 0 = 1 ∧ echoM (b.getD (2 * qH b) 0) (b.getD (2 * qH b + 1) 0) = true)) := by
  unfold errQ at h
  by_cases h1 : b.length < 20
  · rw [if_pos h1] at h; omega
  rw [if_neg h1] at h
  by_cases h2 : b.getD 0 0 / 16 ≠ 4 ∨ qH b < 10
  · rw [if_pos h2] at h; omega
  rw [if_neg h2] at h
  by_cases h3 : b.length < 2 * qH b + 8
  · rw [if_pos h3] at h; omega
  rw [if_neg h3] at h
  by_cases h4 : wordL b 3 % 8192 ≠ 0
  · rw [if_pos h4] at h; omega
  rw [if_neg h4] at h
  refine ⟨by omega, ?_⟩
  by_cases h5 : b.getD 9 0 = 6 ∨ b.getD 9 0 = 17
  · rcases h5 with h5 | h5
    · exact .inl h5
    · exact .inr (.inl h5)
  rw [if_neg h5] at h
  by_cases h6 : b.getD 9 0 = 1 ∧ echoM (b.getD (2 * qH b) 0) (b.getD (2 * qH b + 1) 0) = true
  · exact .inr (.inr h6)
  · rw [if_neg h6] at h; omega
/-- The steps of a rewriting: which fields follow, which word, what it becomes. -/
def portsQ (b : List Int) (t : Tu) (s : Int) : List (Nat × Int) :=
  if b.getD 9 0 = 1 then [(qH b + 2, t.sp)] else [(qH b, t.sp), (qH b + 1, t.dp)] ++ (if b.getD 9 0 = 6 then [(qH b + 2, s / 65536), (qH b + 3, s % 65536)] else [])
def headQ (t : Tu) : List (Nat × Int) := [(6, t.sr / 65536), (7, t.sr % 65536), (8, t.ds / 65536), (9, t.ds % 65536)]
def runQ (fs : List Nat) (ks : List (Nat × Int)) (b : List Int) : List Int := ks.foldl (fun c p => chQ fs c p.1 p.2) b
def fixQ (b c : List Int) : List Int := if b.getD 9 0 ≠ 6 ∧ partQ b ≠ [] ∧ wordL c (qF (b.getD 9 0) (qH b)) = 0 then layL c (qF (b.getD 9 0) (qH b)) 65535 else c
def seqQ (b : List Int) (sh : Int) : Int := (qSeq b + sh) % 4294967296
def rwQ (b : List Int) (t : Tu) (sh : Int) : List Int := fixQ b (runQ (partQ b) (portsQ b t (seqQ b sh)) (runQ (bothQ b) (headQ t) b))
/-- A row of steps: what stays, what becomes, how the fields follow. -/
theorem runQ_spec (fs : List Nat) : ∀ (ks : List (Nat × Int)) (b : List Int), Bytes b → (∀ p ∈ ks, 2 * p.1 + 1 < b.length ∧ U16 p.2 ∧ p.1 ∉ fs) → fs.Nodup → (∀ f ∈ fs, 2 * f + 1 < b.length) → (ks.map (·.1)).Nodup →
    (runQ fs ks b).length = b.length ∧ Bytes (runQ fs ks b) ∧ (∀ i, i / 2 ∉ fs → (∀ p ∈ ks, p.1 ≠ i / 2) → (runQ fs ks b).getD i 0 = b.getD i 0) ∧ (∀ p ∈ ks, wordL (runQ fs ks b) p.1 = p.2) ∧
    (∀ f ∈ fs, wordL (runQ fs ks b) f % 65535 = (wordL b f + (ks.map (fun p => wordL b p.1 - p.2)).sum) % 65535)
  | [], b, hb, _, _, _, _ => ⟨rfl, hb, fun _ _ _ => rfl, fun p h => (by cases h), fun f _ => by simp [runQ]⟩
  | p :: ks, b, hb, hk, hn, hf, hd => by
    obtain ⟨h1, h2, h3⟩ := hk p (List.mem_cons_self ..)
    have hm : MayQ fs b p.1 p.2 := ⟨hb, h1, h2, fun f hf' => ⟨hf f hf', fun e => h3 (e ▸ hf')⟩, hn⟩
    rw [List.map_cons, List.nodup_cons] at hd
    obtain ⟨hd1, hd2⟩ := hd
    have hl := chQ_len fs b p.1 p.2
    obtain ⟨g1, g2, g3, g4, g5⟩ := runQ_spec fs ks (chQ fs b p.1 p.2) hm.bytes (fun q hq => by rw [hl]; exact hk q (List.mem_cons_of_mem _ hq)) hn (fun f hf' => by rw [hl]; exact hf f hf') hd2
    have hne : ∀ q ∈ ks, q.1 ≠ p.1 := fun q hq e => hd1 (List.mem_map.2 ⟨q, hq, e⟩)
    have hw : ∀ q ∈ ks, wordL (chQ fs b p.1 p.2) q.1 = wordL b q.1 := fun q hq => hm.other (hk q (List.mem_cons_of_mem _ hq)).2.2 (hne q hq)
    have e : runQ fs (p :: ks) b = runQ fs ks (chQ fs b p.1 p.2) := rfl
    rw [e]
    refine ⟨g1.trans hl, g2, fun i hi hp => ?_, fun q hq => ?_, fun f hf' => ?_⟩
    · rw [g3 i hi (fun q hq => hp q (List.mem_cons_of_mem _ hq))]
      exact hm.far hi (fun e => hp p (List.mem_cons_self ..) e.symm)
    · rcases List.mem_cons.1 hq with rfl | hq
      · have key : ∀ i, i / 2 = q.1 → (runQ fs ks (chQ fs b q.1 q.2)).getD i 0 = (chQ fs b q.1 q.2).getD i 0 := fun i hi => g3 i (by rw [hi]; exact h3) (fun r hr => by rw [hi]; exact hne r hr)
        have : wordL (runQ fs ks (chQ fs b q.1 q.2)) q.1 = wordL (chQ fs b q.1 q.2) q.1 := by unfold wordL; rw [key _ (by omega), key _ (by omega)]
        rw [this]; exact hm.same
      · exact g4 q hq
    · have hmap : ks.map (fun q => wordL (chQ fs b p.1 p.2) q.1 - q.2) = ks.map (fun q => wordL b q.1 - q.2) := List.map_congr_left (fun q hq => by rw [hw q hq])
      have := g5 f hf'
      have h0 := hm.fld hf'
      rw [hmap] at this
      rw [List.map_cons, List.sum_cons]
      omega
/-- The addresses' words, the ports' (and the number's). -/
def hsQ (c : List Int) : Int := wordL c 6 + wordL c 7 + wordL c 8 + wordL c 9
def psQ (pr : Int) (H : Nat) (c : List Int) : Int := if pr = 1 then wordL c (H + 2) else wordL c H + wordL c (H + 1) + (if pr = 6 then wordL c (H + 2) + wordL c (H + 3) else 0)
/-- What a rewriting is. -/
structure RwIs (b r : List Int) (t : Tu) (s : Int) : Prop where
  len : r.length = b.length
  byte : Bytes r
  far : ∀ i, i / 2 ≠ 5 → i / 2 ∉ partQ b → (∀ p ∈ headQ t ++ portsQ b t s, p.1 ≠ i / 2) → r.getD i 0 = b.getD i 0
  word : ∀ p ∈ headQ t ++ portsQ b t s, wordL r p.1 = p.2
  h : wordL r 5 % 65535 = (wordL b 5 + hsQ b - hsQ r) % 65535
  p : ∀ f ∈ partQ b, wordL r f % 65535 = (wordL b f + (if b.getD 9 0 = 1 then 0 else hsQ b - hsQ r) + (psQ (b.getD 9 0) (qH b) b - psQ (b.getD 9 0) (qH b) r)) % 65535
  z : b.getD 9 0 ≠ 6 → ∀ f ∈ partQ b, wordL r f ≠ 0
theorem part_cases (b : List Int) : (partQ b = [] ∨ (partQ b = [qF (b.getD 9 0) (qH b)] ∧ 2 * qF (b.getD 9 0) (qH b) + 2 ≤ b.length)) := by
  unfold partQ
  split
  · rename_i h; exact .inr ⟨rfl, h.1⟩
  · exact .inl rfl
theorem rwQ_is {b : List Int} {t : Tu} {sh : Int} (hb : Bytes b) (he : errQ b = 0) (ht : TuNum t) : RwIs b (rwQ b t sh) t (seqQ b sh) := by
  obtain ⟨⟨_, h10, hl, _⟩, hp⟩ := errQ_ok he
  obtain ⟨pr, epr⟩ : ∃ p, b.getD 9 0 = p := ⟨_, rfl⟩
  obtain ⟨H, eH⟩ : ∃ H, qH b = H := ⟨_, rfl⟩
  obtain ⟨s, es⟩ : ∃ s, seqQ b sh = s := ⟨_, rfl⟩
  have hs : 0 ≤ s ∧ s < 4294967296 := by rw [← es]; unfold seqQ; omega
  have hpr : pr = 6 ∨ pr = 17 ∨ pr = 1 := by rw [epr] at hp; rcases hp with h | h | h; exact .inl h; exact .inr (.inl h); exact .inr (.inr h.1)
  have hpc := part_cases b
  rw [epr, eH] at hpc
  have h1 := ht.sr; have h2 := ht.ds; have h3 := ht.sp; have h4 := ht.dp
  have hF : qF pr H ≠ H + 2 ∨ pr ≠ 1 := by by_cases h : pr = 1; left; unfold qF; rw [if_neg (by omega), if_neg (by omega)]; omega; exact .inr h
  have hFb : H + 1 ≤ qF pr H := by unfold qF; split; omega; split <;> omega
  have hF6 : pr ≠ 1 → H + 3 ≤ qF pr H := by intro h; unfold qF; split; omega; split <;> omega
  have hF7 : pr = 6 → qF pr H = H + 8 := by intro h; unfold qF; rw [if_pos h]
  have hfin : ∀ f ∈ partQ b, f = qF pr H ∧ 2 * f + 1 < b.length := by
    intro f hf
    rcases hpc with h | ⟨h, hh⟩
    · rw [h] at hf; cases hf
    · rw [h] at hf; rcases List.mem_singleton.1 hf; exact ⟨rfl, by omega⟩
  have hpn : (partQ b).Nodup := by rcases hpc with h | ⟨h, _⟩ <;> rw [h] <;> simp
  have hbm : ∀ f ∈ bothQ b, f = 5 ∨ (f ∈ partQ b ∧ pr ≠ 1) := by
    intro f hf
    unfold bothQ at hf
    rcases List.mem_cons.1 hf with h | h
    · exact .inl h
    · rw [epr] at h
      by_cases h9 : pr = 1
      · rw [if_pos h9] at h; cases h
      · rw [if_neg h9] at h; exact .inr ⟨h, h9⟩
  have hbn : (bothQ b).Nodup := by
    unfold bothQ
    rw [epr]
    by_cases h9 : pr = 1
    · rw [if_pos h9]; simp
    · rw [if_neg h9]
      exact List.nodup_cons.2 ⟨fun h => by have := (hfin 5 h).1; omega, hpn⟩
  obtain ⟨a1, a2, a3, a4, a5⟩ := runQ_spec (bothQ b) (headQ t) b hb (fun p hp => by
      have hin : p.1 = 6 ∨ p.1 = 7 ∨ p.1 = 8 ∨ p.1 = 9 := by unfold headQ at hp; simp only [List.mem_cons, List.not_mem_nil, or_false] at hp; rcases hp with rfl | rfl | rfl | rfl <;> simp
      refine ⟨by omega, ?_, fun hm => ?_⟩
      · unfold headQ at hp; simp only [List.mem_cons, List.not_mem_nil, or_false] at hp
        rcases hp with rfl | rfl | rfl | rfl <;> exact ⟨by simp only; omega, by simp only; omega⟩
      · rcases hbm _ hm with h | h
        · omega
        · have := (hfin _ h.1).1; omega) hbn (fun f hf => by
      rcases hbm f hf with h | h
      · omega
      · exact (hfin f h.1).2) (by unfold headQ; simp)
  obtain ⟨c, ec⟩ : ∃ c, runQ (bothQ b) (headQ t) b = c := ⟨_, rfl⟩
  rw [ec] at a1 a2 a3 a4 a5
  have hpk : ∀ p ∈ portsQ b t s, H ≤ p.1 ∧ p.1 ≤ H + 3 ∧ U16 p.2 ∧ p.1 ≠ qF pr H := by
    intro p hp
    unfold portsQ at hp
    rw [epr, eH] at hp
    by_cases h9 : pr = 1
    · rw [if_pos h9] at hp
      rcases List.mem_singleton.1 hp
      exact ⟨by simp only; omega, by simp only; omega, ⟨by simp only; omega, by simp only; omega⟩, by simp only; rcases hF with h | h; omega; omega⟩
    · rw [if_neg h9] at hp
      have := hF6 h9
      rcases List.mem_append.1 hp with hp | hp
      · simp only [List.mem_cons, List.not_mem_nil, or_false] at hp
        rcases hp with rfl | rfl
        · exact ⟨by simp only; omega, by simp only; omega, ⟨by simp only; omega, by simp only; omega⟩, by simp only; omega⟩
        · exact ⟨by simp only; omega, by simp only; omega, ⟨by simp only; omega, by simp only; omega⟩, by simp only; omega⟩
      · by_cases h6 : pr = 6
        · rw [if_pos h6] at hp
          have := hF7 h6
          simp only [List.mem_cons, List.not_mem_nil, or_false] at hp
          rcases hp with rfl | rfl
          · exact ⟨by simp only; omega, by simp only; omega, ⟨by simp only; omega, by simp only; omega⟩, by simp only; omega⟩
          · exact ⟨by simp only; omega, by simp only; omega, ⟨by simp only; omega, by simp only; omega⟩, by simp only; omega⟩
        · rw [if_neg h6] at hp; cases hp
  have hpd : ((portsQ b t s).map (·.1)).Nodup := by
    unfold portsQ
    rw [epr, eH]
    by_cases h9 : pr = 1
    · rw [if_pos h9]; simp
    · rw [if_neg h9]
      by_cases h6 : pr = 6
      · rw [if_pos h6]; simp
      · rw [if_neg h6]; simp
  obtain ⟨b1, b2, b3, b4, b5⟩ := runQ_spec (partQ b) (portsQ b t s) c a2 (fun p hp => by
      obtain ⟨g1, g2, g3, g4⟩ := hpk p hp
      exact ⟨by omega, g3, fun hm => g4 (hfin _ hm).1⟩) hpn (fun f hf => by rw [a1]; exact (hfin f hf).2) hpd
  obtain ⟨d, ed⟩ : ∃ d, runQ (partQ b) (portsQ b t s) c = d := ⟨_, rfl⟩
  rw [ed] at b1 b2 b3 b4 b5
  -- words of c and d
  have hcw : ∀ k, k ≠ 5 → k ∉ partQ b → (k < 6 ∨ 9 < k) → wordL c k = wordL b k := by
    intro k hk hkp hk2
    have key : ∀ i, i / 2 = k → c.getD i 0 = b.getD i 0 := fun i hi => a3 i (fun hm => by rcases hbm _ hm with h | h; omega; exact hkp (hi ▸ h.1)) (fun p hp => by
      have hin : p.1 = 6 ∨ p.1 = 7 ∨ p.1 = 8 ∨ p.1 = 9 := by unfold headQ at hp; simp only [List.mem_cons, List.not_mem_nil, or_false] at hp; rcases hp with rfl | rfl | rfl | rfl <;> simp
      omega)
    unfold wordL; rw [key _ (by omega), key _ (by omega)]
  have hdw : ∀ k, k ∉ partQ b → (∀ p ∈ portsQ b t s, p.1 ≠ k) → wordL d k = wordL c k := by
    intro k hkp hk2
    have key : ∀ i, i / 2 = k → d.getD i 0 = c.getD i 0 := fun i hi => b3 i (by rw [hi]; exact hkp) (fun p hp => by rw [hi]; exact hk2 p hp)
    unfold wordL; rw [key _ (by omega), key _ (by omega)]
  have hlow : ∀ k, k < 10 → wordL d k = wordL c k := fun k hk => hdw k (fun hm => by have := (hfin k hm).1; omega) (fun p hp => by have := (hpk p hp).1; omega)
  -- the sums of what is changed
  have hhs : ((headQ t).map (fun p => wordL b p.1 - p.2)).sum = hsQ b - hsQ d := by
    have e6 := a4 (6, t.sr / 65536) (by unfold headQ; simp)
    have e7 := a4 (7, t.sr % 65536) (by unfold headQ; simp)
    have e8 := a4 (8, t.ds / 65536) (by unfold headQ; simp)
    have e9 := a4 (9, t.ds % 65536) (by unfold headQ; simp)
    simp only at e6 e7 e8 e9
    unfold headQ hsQ
    rw [hlow 6 (by omega), hlow 7 (by omega), hlow 8 (by omega), hlow 9 (by omega), e6, e7, e8, e9]
    simp only [List.map_cons, List.map_nil, List.sum_cons, List.sum_nil]
    omega
  have hpcw : ∀ p ∈ portsQ b t s, wordL c p.1 = wordL b p.1 := fun p hp => by
    obtain ⟨g1, g2, g3, g4⟩ := hpk p hp
    exact hcw p.1 (by omega) (fun hm => g4 (hfin _ hm).1) (by omega)
  have hps : ((portsQ b t s).map (fun p => wordL c p.1 - p.2)).sum = psQ pr H b - psQ pr H d := by
    rw [List.map_congr_left (g := fun p => wordL b p.1 - wordL d p.1) (fun p hp => by rw [hpcw p hp, b4 p hp])]
    unfold portsQ psQ
    rw [epr, eH]
    by_cases h9 : pr = 1
    · rw [if_pos h9, if_pos h9, if_pos h9]
      simp only [List.map_cons, List.map_nil, List.sum_cons, List.sum_nil]
      omega
    · rw [if_neg h9, if_neg h9, if_neg h9]
      by_cases h6 : pr = 6
      · rw [if_pos h6, if_pos h6, if_pos h6]
        simp only [List.map_cons, List.map_nil, List.sum_cons, List.sum_nil, List.cons_append, List.nil_append]
        omega
      · rw [if_neg h6, if_neg h6, if_neg h6]
        simp only [List.map_cons, List.map_nil, List.sum_cons, List.sum_nil, List.cons_append, List.nil_append]
        omega
  have h5d : wordL d 5 % 65535 = (wordL b 5 + hsQ b - hsQ d) % 65535 := by
    rw [hlow 5 (by omega), a5 5 (by unfold bothQ; exact List.mem_cons_self ..), hhs]
    congr 1; omega
  have hpd2 : ∀ f ∈ partQ b, wordL d f % 65535 = (wordL b f + (if pr = 1 then 0 else hsQ b - hsQ d) + (psQ pr H b - psQ pr H d)) % 65535 := by
    intro f hf
    have e1 := b5 f hf
    rw [hps] at e1
    by_cases h9 : pr = 1
    · rw [if_pos h9]
      have : wordL c f = wordL b f := by
        have key : ∀ i, i / 2 = f → c.getD i 0 = b.getD i 0 := fun i hi => a3 i (fun hm => by rcases hbm _ hm with h | h; (have := (hfin f hf).1; omega); exact h.2 h9) (fun p hp => by
          have hin : p.1 = 6 ∨ p.1 = 7 ∨ p.1 = 8 ∨ p.1 = 9 := by unfold headQ at hp; simp only [List.mem_cons, List.not_mem_nil, or_false] at hp; rcases hp with rfl | rfl | rfl | rfl <;> simp
          have := (hfin f hf).1
          omega)
        unfold wordL; rw [key _ (by omega), key _ (by omega)]
      rw [this] at e1
      rw [e1]; congr 1; omega
    · rw [if_neg h9]
      have e2 := a5 f (by unfold bothQ; rw [epr, if_neg h9]; exact List.mem_cons_of_mem _ hf)
      rw [hhs] at e2
      omega
  have er : rwQ b t sh = fixQ b d := by unfold rwQ; rw [es, ec, ed]
  rw [er, es]
  have hfx : fixQ b d = d ∨ (fixQ b d = layL d (qF pr H) 65535 ∧ wordL d (qF pr H) = 0 ∧ partQ b = [qF pr H] ∧ 2 * qF pr H + 2 ≤ b.length) := by
    unfold fixQ
    rw [epr, eH]
    split
    · rename_i h
      refine .inr ⟨rfl, h.2.2, ?_⟩
      rcases hpc with h' | h'
      · exact absurd h' h.2.1
      · exact h'
    · exact .inl rfl
  have hz : pr ≠ 6 → ∀ f ∈ partQ b, wordL (fixQ b d) f ≠ 0 := by
    intro h6 f hf
    have hff := (hfin f hf).1
    unfold fixQ
    rw [epr, eH]
    by_cases hw : wordL d (qF pr H) = 0
    · rw [if_pos ⟨h6, List.ne_nil_of_mem hf, hw⟩, hff, wordL_lay_same _ _ _ (by rw [b1, a1, ← hff]; exact (hfin f hf).2)]
      omega
    · rw [if_neg (fun h => hw h.2.2), hff]; exact hw
  have hdp : ∀ p ∈ headQ t ++ portsQ b t s, wordL d p.1 = p.2 ∧ p.1 ≠ qF pr H := by
    intro p hp
    rcases List.mem_append.1 hp with hp | hp
    · have hin : p.1 = 6 ∨ p.1 = 7 ∨ p.1 = 8 ∨ p.1 = 9 := by unfold headQ at hp; simp only [List.mem_cons, List.not_mem_nil, or_false] at hp; rcases hp with rfl | rfl | rfl | rfl <;> simp
      exact ⟨by rw [hlow p.1 (by omega)]; exact a4 p hp, by omega⟩
    · exact ⟨b4 p hp, (hpk p hp).2.2.2⟩
  have hdfar : ∀ i, i / 2 ≠ 5 → i / 2 ∉ partQ b → (∀ p ∈ headQ t ++ portsQ b t s, p.1 ≠ i / 2) → d.getD i 0 = b.getD i 0 := fun i h5 hp hk => by
    rw [b3 i hp (fun p hp => hk p (List.mem_append_right _ hp)), a3 i (fun hm => by rcases hbm _ hm with h | h; exact h5 h; exact hp h.1) (fun p hp => hk p (List.mem_append_left _ hp))]
  have hpsk : ∀ q : List Int, (∀ k, k ≠ qF pr H → wordL q k = wordL d k) → hsQ q = hsQ d ∧ psQ pr H q = psQ pr H d := by
    intro q hq
    refine ⟨by unfold hsQ; rw [hq 6 (by omega), hq 7 (by omega), hq 8 (by omega), hq 9 (by omega)], ?_⟩
    unfold psQ
    by_cases h9 : pr = 1
    · rw [if_pos h9, if_pos h9, hq (H + 2) (by rcases hF with h | h; omega; omega)]
    · have := hF6 h9
      rw [if_neg h9, if_neg h9, hq H (by omega), hq (H + 1) (by omega)]
      by_cases h6 : pr = 6
      · have := hF7 h6
        rw [if_pos h6, if_pos h6, hq (H + 2) (by omega), hq (H + 3) (by omega)]
      · rw [if_neg h6, if_neg h6]
  rcases hfx with e | ⟨e, e0, ep, el⟩
  · rw [e] at hz ⊢
    exact ⟨b1.trans a1, b2, hdfar, fun p hp => (hdp p hp).1, h5d, by rw [epr, eH]; exact hpd2, by rw [epr]; exact hz⟩
  · rw [e] at hz ⊢
    obtain ⟨q1, q2⟩ := hpsk (layL d (qF pr H) 65535) (fun k hk => wordL_lay_other _ _ _ _ (fun e => hk e.symm))
    refine ⟨by rw [layL_len]; exact b1.trans a1, layL_byte b2 _ ⟨by omega, by omega⟩, fun i h5 hp hk => ?_, fun p hp => ?_, ?_, ?_, by rw [epr]; exact hz⟩
    · rw [getD_lay _ _ _ _ (fun e => hp (by rw [ep, e]; exact List.mem_singleton.2 rfl))]
      exact hdfar i h5 hp hk
    · rw [wordL_lay_other _ _ _ _ (fun e => (hdp p hp).2 e.symm)]
      exact (hdp p hp).1
    · rw [wordL_lay_other _ _ _ _ (by omega), q1]
      exact h5d
    · intro f hf
      have hff := (hfin f hf).1
      have e2 := hpd2 f hf
      rw [epr, eH, q1, q2, hff, wordL_lay_same _ _ _ (by rw [b1, a1]; omega)]
      rw [hff, e0] at e2
      rw [← e2]
      rfl
end Go.Proofs.YtoegfgbalcholaaGreat
