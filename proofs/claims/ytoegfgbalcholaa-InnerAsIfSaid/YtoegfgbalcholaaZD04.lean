/-
  Texts laid together: Tup, Bits16, WireLay, Icmp.
-/
import Derived.Test.YtoegfgbalcholaaZD01
import Derived.Test.YtoegfgbalcholaaZD03
import Derived.WalkKit
import Derived.Laws.BitsLemmas
import Derived.Test.YtoegfgbalcholaaZD02
import Derived.Lib.AppendZeros
import Derived.Lib.Hide
import Derived.Deep.LoopGhost
import Derived.LoopTactic
import Derived.Outline

/-
  Tuples (api.Tuple) as numbers: bytes, order, the other way round. Nothing of the program.
-/
namespace Go.Proofs.Ytoegfgbalcholaa
set_option maxRecDepth 10000
open Go.RowKit

structure Tu where
  pr : Int
  sr : Int
  ds : Int
  sp : Int
  dp : Int
structure TuNum (t : Tu) : Prop where
  pr : 0 ≤ t.pr ∧ t.pr < 256
  sr : 0 ≤ t.sr ∧ t.sr < 4294967296
  ds : 0 ≤ t.ds ∧ t.ds < 4294967296
  sp : 0 ≤ t.sp ∧ t.sp < 65536
  dp : 0 ≤ t.dp ∧ t.dp < 65536
end Go.Proofs.Ytoegfgbalcholaa

/-
  Small equations on numbers of 16 bits, as a walk leaves them. Nothing of the program.
-/
namespace Go.Proofs.Ytoegfgbalcholaa
set_option maxRecDepth 10000
theorem wrap_u16 (n : Int) : IntKind.u16.wrap n = n % 65536 := by simp [IntKind.wrap, IntKind.bits, IntKind.signed]
theorem wraps_u16 (n : Int) (h₀ : 0 ≤ n) (h₁ : n < 2 ^ 16) : IntKind.u16.wrap n = n := by rw [wrap_u16]; omega
theorem or16 (x y : Int) (hx : 0 ≤ x ∧ x < 256) (hy : 0 ≤ y ∧ y < 256) : bits .or .u16 (x * 256) y = x * 256 + y :=
  bits_join .u16 16 (by decide) wraps_u16 8 (x * 256) y (by omega) (by omega) (by omega) (by omega) (by omega) (by omega)
theorem wraps_u32 (n : Int) (h₀ : 0 ≤ n) (h₁ : n < 2 ^ 32) : IntKind.u32.wrap n = n := by simp [IntKind.wrap, IntKind.bits, IntKind.signed]; omega
theorem or32 (x y : Int) (hx : 0 ≤ x ∧ x < 16777216) (hy : 0 ≤ y ∧ y < 256) : bits .or .u32 (x * 256) y = x * 256 + y :=
  bits_join .u32 32 (by decide) wraps_u32 8 (x * 256) y (by omega) (by omega) (by omega) (by omega) (by omega) (by omega)
theorem not16 (x : Int) (h : 0 ≤ x ∧ x ≤ 65535) : bits .xor .u16 IntKind.u16.max x = 65535 - x := by
  obtain ⟨a, rfl⟩ := Int.eq_ofNat_of_zero_le h.1
  have h2 : (BitVec.ofInt 16 (a : Int)).toNat = a := by
    rw [BitVec.ofInt_natCast, BitVec.toNat_ofNat]; exact Nat.mod_eq_of_lt (by omega)
  have e : IntKind.u16.max = 65535 := by decide
  have h1 : BitVec.ofInt 16 65535 = BitVec.allOnes 16 := by decide
  show IntKind.u16.wrap ((BitVec.ofInt 16 IntKind.u16.max ^^^ BitVec.ofInt 16 (a : Int)).toNat : Int) = _
  rw [e, h1, BitVec.allOnes_xor, BitVec.toNat_not, h2, wrap_u16]
  omega
theorem and16_mask (i : Nat) (hi : i ≤ 16) (x : Int) (h : 0 ≤ x ∧ x < 65536) : bits .and .u16 x (2 ^ i - 1) = x % 2 ^ i := bits_mask .u16 16 (by decide) wraps_u16 i hi x h.1 h.2
end Go.Proofs.Ytoegfgbalcholaa

/-
  The contracts of slices.Grow (of nil), slices.Concat, and of package wire's U8, U16, U32: a row of bytes of the call's own.
-/
namespace Go.Proofs.Ytoegfgbalcholaa
set_option maxRecDepth 10000
open Go.RowKit

theorem grow_zero (w : World) :
    Calls Try.prog 70 #[.slice none 0 0, .int .i64 0] w (RowIs 0 [] w) := by
  have Ho := Lib.hid (OwnB.nil w w.heap.size)
  go_enter Try.func70, Try.ntmps70
  go_wp2_with fail
  go_ret
  exact ⟨none, 0, rfl, Nat.le_refl _, by simp [maxLen], Ho.out, Below.refl _ _⟩

theorem grow_some (m : Nat) (w : World) (h0 : 0 < m) (hm : m ≤ 140737488355328) :
    Calls Try.prog 70 #[.slice none 0 0, .int .i64 (m : Int)] w (RowIs 0 [] w) := by
  obtain ⟨i0, hi, hz0, hz1, hz2⟩ := info_parts info5
  have hrz := fun ty => Lib.run_append_nil_zeros (P := Try.prog) w 22 3 ty 5 i0 (.int .u8 0) .i64 .i64 Try.underlying22 Try.underlying3 hi hz0 m h0 (by rw [hz1]; decide) (by omega) (by rw [hz2]; omega)
  have hG := grownCap_ge w m 0 5
  have hG2 := grownCap_le_maxLen w m 0 5 (by unfold maxLen; omega)
  obtain ⟨G, eG⟩ : ∃ G, grownCap w m 0 5 = G := ⟨_, rfl⟩
  rw [eG] at hrz hG hG2
  clear eG
  have hG3 : G ≤ 9223372036854775807 := by unfold maxLen at hG2; omega
  have HG2 := Lib.hid hG2
  have h0i : 0 < (m : Int) := by omega
  clear hG2
  go_enter Try.func70, Try.ntmps70
  go_wp2_with (at_builtin; refine Lib.wpList_append_run _ rfl _ _ _ _ rfl _ _ rfl rfl _ _ (hrz _) ?_)
  go_ret
  refine ⟨some ⟨w.heap.size, 0, none⟩, G, rfl, Nat.zero_le _, HG2.out, OwnB.made (cur := Builtin.zeroCells #[.int .u8 0] m ++ Builtin.zeroCells #[.int .u8 0] (G - m)) (heap_alloc_new w _) (Nat.le_refl _) HG2.out ?_, ((Below.refl _ _).alloc (Nat.le_refl _) _).drew⟩
  simp [Builtin.zeroCells]
  omega

theorem grow_nil (m : Nat) (w : World) (hm : m ≤ 140737488355328) :
    Calls Try.prog 70 #[.slice none 0 0, .int .i64 (m : Int)] w (RowIs 0 [] w) := by
  rcases Nat.eq_zero_or_pos m with h | h
  · subst h; exact grow_zero w
  · exact grow_some m w h hm

theorem flat_len_le (ls : List (List Int)) (k : Nat) : (ls.take k).flatten.length ≤ ls.flatten.length := by
  have h : ls.flatten = (ls.take k).flatten ++ (ls.drop k).flatten := by rw [← List.flatten_append, List.take_append_drop]
  rw [h, List.length_append]; omega

theorem concat_any (A : Option Addr) (n c : Nat) (ls : List (List Int)) (w : World) (hn : n ≤ 1000000) (h : RdL w A n ls) (hm : ls.flatten.length ≤ 140737488355328) :
    Calls Try.prog 36 #[.slice A n c] w (RowIs ls.flatten.length ls.flatten w) := by
  obtain ⟨T, hT⟩ : ∃ T, T = ls.flatten.length := ⟨_, rfl⟩
  rw [← hT] at hm ⊢
  have HT := Lib.hid hT
  have Hlen := Lib.hid h.len
  clear hT
  go_enter Try.func36, Try.ntmps36
  go_wp2_with fail
  go_loopg [3, 11] n (fun gk s i wr => ∃ j m : Nat, Hid (gk + j = n) ∧ j ≤ n ∧ i = .int .i64 (j : Int) ∧ m ≤ 140737488355328 ∧ s = .int .i64 (m : Int) ∧ Hid (m = (ls.take j).flatten.length) ∧ w = wr)
  case atStart => exact ⟨0, 0, rfl, Nat.zero_le _, rfl, by omega, rfl, rfl, rfl⟩
  case round =>
    obtain ⟨j, m, hgk, hj, rfl, hmj, rfl, hM, rfl⟩ := hrel
    by_cases hlt : j < n
    · obtain ⟨q, Ai, ci, hrunq, hqb, hcq, hci, hcm, hri⟩ := h.index (c := c) hlt
      have hsum : m + (ls.getD j []).length ≤ 140737488355328 := by
        have h1 := hM.out
        have h2 := flat_take ls j (by rw [Hlen.out]; exact hlt)
        have h3 := flat_len_le ls (j + 1)
        rw [h2, List.length_append, ← h1] at h3
        have := HT.out
        omega
      have Hs := Lib.hid (show m + (ls.getD j []).length = (ls.take (j + 1)).flatten.length by rw [flat_take ls j (by rw [Hlen.out]; exact hlt), List.length_append, ← hM.out])
      obtain ⟨k, ek⟩ : ∃ k, (ls.getD j []).length = k := ⟨_, rfl⟩
      rw [ek] at hcq hsum Hs
      clear hri hci ek
      go_wp2_with fail
      go_roundg (gk - 1)
      case measure => have := hgk.out; omega
      case rel => exact ⟨j + 1, m + k, by have := hgk.out; show gk - 1 + (j + 1) = _; omega, by omega, by go_num, hsum, by go_num, Hs, rfl⟩
    · obtain rfl : j = n := by omega
      have hmT : m = T := by
        have h1 := hM.out
        rw [List.take_of_length_le (by rw [Hlen.out]; exact Nat.le_refl _)] at h1
        rw [h1, HT.out]
      subst hmT
      go_wp2_with fail
      refine (grow_nil m _ hm).mono ?_
      rintro e w1 ⟨A1, c1, rfl, -, -, hown1, hb1⟩
      have hL := h
      have Hown1 := Lib.hid hown1
      have Hb1 := Lib.hid hb1
      clear hown1 hb1 hM hgk hj hmj h
      go_wp2_with fail
      go_loopg [6, 27] j (fun gk2 s i w2 => ∃ (k m2 : Nat) (A2 : Option Addr) (c2 : Nat), Hid (gk2 + k = j) ∧ k ≤ j ∧ i = .int .i64 (k : Int) ∧ m2 ≤ 140737488355328 ∧ s = .slice A2 m2 c2 ∧ Hid (OwnB w2 w.heap.size A2 m2 c2 (ls.take k).flatten) ∧ Below w.heap.size w w2)
      case atStart => exact ⟨0, 0, A1, c1, rfl, Nat.zero_le _, rfl, by omega, rfl, Hown1.out, Hb1.out⟩
      case round =>
        obtain ⟨k, m2, A2, c2, hgk2, hk, rfl, hm2, rfl, hown2, hb2⟩ := hrel
        have hbs := hb2.size
        by_cases hkj : k < j
        · obtain ⟨q, Ai, ci, hrunq, hqb, hcq0, hci, hcm, hri⟩ := hL.index (c := c) hkj
          have hcq : wr.cell? q = some (.slice Ai (ls.getD k []).length ci) := by rw [hb2.cell hqb]; exact hcq0
          have hri2 := hri.below hb2
          have hsum : m2 + (ls.getD k []).length ≤ 140737488355328 := by
            have h1 := hown2.out.len
            have h2 := flat_take ls k (by rw [Hlen.out]; exact hkj)
            have h3 := flat_len_le ls (k + 1)
            rw [h2, List.length_append, h1] at h3
            have := HT.out
            omega
          have Hri := Lib.hid hri2
          have Hf := Lib.hid (flat_take ls k (by rw [Hlen.out]; exact hkj))
          obtain ⟨k2, ek⟩ : ∃ k2, (ls.getD k []).length = k2 := ⟨_, rfl⟩
          rw [ek] at hcq hsum Hri
          clear hri hri2 hci ek hcq0
          go_wp2_with (refine wpList_app rfl (.tmp 31) (.tmp 32) rfl w.heap.size A2 Ai m2 c2 k2 ci _ _ rfl rfl hown2.out Hri.out hsum hbs ?_; intro A3 c3 w3 hown3 _ hb3 _)
          have Hown3 : Hid (OwnB w3 w.heap.size A3 (m2 + k2) c3 (ls.take (k + 1)).flatten) := by
            show OwnB _ _ _ _ _ _
            rw [Hf.out]; exact hown3
          clear hown3
          go_roundg (gk - 1)
          case measure => have := hgk2.out; omega
          case rel => exact ⟨k + 1, m2 + k2, A3, c3, by have := hgk2.out; show gk - 1 + (k + 1) = _; omega, by omega, by go_num, hsum, rfl, Hown3, hb2.trans hb3⟩
        · obtain rfl : k = j := by omega
          have hmm : m2 = m := by
            have h1 := hown2.out.len
            rw [List.take_of_length_le (by rw [Hlen.out]; exact Nat.le_refl _)] at h1
            have := HT.out
            omega
          subst hmm
          go_wp2_with fail
          go_ret
          have ho := hown2.out
          rw [List.take_of_length_le (by rw [Hlen.out]; exact Nat.le_refl _)] at ho
          exact ⟨A2, c2, rfl, ho.cap, ho.capMax, ho, hb2⟩

theorem RdL.twoW (w : World) (t : TypeId) (A A' : Option Addr) (n c n' c' : Nat) (l l' : List Int) (hc : n ≤ c ∧ c ≤ maxLen) (hc' : n' ≤ c' ∧ c' ≤ maxLen) (h : Rd w A n l) (h' : Rd w A' n' l') :
    RdL (w.alloc (.cells #[.slice A n c, .slice A' n' c'] t)) (some ⟨w.heap.size, 0, none⟩) 2 [l, l'] := by
  have hb : Below w.heap.size w (w.alloc (.cells #[.slice A n c, .slice A' n' c'] t)) := (Below.refl _ _).alloc (Nat.le_refl _) _
  refine ⟨rfl, fun _ => ⟨w.heap.size, 0, rfl, by simp, fun i hi => ?_⟩⟩
  have e : ∀ j, (w.alloc (.cells #[.slice A n c, .slice A' n' c'] t)).cell? ⟨w.heap.size, j, none⟩ = #[Value.slice A n c, .slice A' n' c'][j]? := fun j => by rw [World.cell?_alloc_mark]
  match i, hi with
  | 0, _ => exact ⟨A, c, by rw [e]; simp [h.len], by simpa [h.len] using hc.1, hc.2, by simpa [h.len] using h.below hb⟩
  | 1, _ => exact ⟨A', c', by rw [e]; simp [h'.len], by simpa [h'.len] using hc'.1, hc'.2, by simpa [h'.len] using h'.below hb⟩

theorem lay_bytes (A A' : Option Addr) (n c n' c' : Nat) (l l' : List Int) (w : World) (hc : n ≤ c ∧ c ≤ maxLen) (hc' : n' ≤ c' ∧ c' ≤ maxLen) (hm : n + n' ≤ 140737488355328) (h : Rd w A n l) (h' : Rd w A' n' l') :
    Calls Try.prog 71 #[.slice A n c, .slice A' n' c'] w (RowIs (n + n') (l ++ l') w) := by
  have hb := (Below.refl w.heap.size w).alloc (Nat.le_refl _) (.cells #[.slice A n c, .slice A' n' c'] 22)
  have hcc := concat_any (some ⟨w.heap.size, 0, none⟩) 2 2 [l, l'] _ (by omega) (RdL.twoW w 22 A A' n c n' c' l l' hc hc' h h') (by simp [h.len, h'.len]; omega)
  rw [show [l, l'].flatten = l ++ l' by simp, show (l ++ l').length = n + n' by simp [h.len, h'.len]] at hcc
  have Hcc := Lib.hid hcc
  have Hb := Lib.hid hb
  clear hb hcc h h'
  go_enter Try.func71, Try.ntmps71
  go_wp2_with fail
  refine Hcc.out.mono ?_
  rintro e w1 ⟨A1, c1, rfl, h1, h2, hown, hb1⟩
  have Hown := Lib.hid hown
  have Hb1 := Lib.hid hb1
  clear hown hb1
  go_wp2_with fail
  go_ret
  exact ⟨A1, c1, rfl, h1, h2, Hown.out.mono (by simp), below_trans Hb.out Hb1.out⟩

/-- A number's bytes, the highest first. -/
def be16 (x : Int) : List Int := [x / 256, x % 256]
def be32 (x : Int) : List Int := [x / 16777216, x / 65536 % 256, x / 256 % 256, x % 256]
theorem u8_lays (A : Option Addr) (n c : Nat) (l : List Int) (x : Int) (w : World) (hx : 0 ≤ x ∧ x < 256) (hc : n ≤ c ∧ c ≤ maxLen) (hm : n + 1 ≤ 140737488355328) (h : Rd w A n l) :
    Calls Try.prog 67 #[.slice A n c, .int .u8 x] w (RowIs (n + 1) (l ++ [x]) w) := by
  have hb := (Below.refl w.heap.size w).alloc (Nat.le_refl _) (.cells ([x].map (Value.int .u8)).toArray 5)
  have hl := lay_bytes A (some ⟨w.heap.size, 0, none⟩) n c 1 1 l [x] _ hc (by simp [maxLen]) hm (h.below hb) (Rd.const w [x] 5 (0, 0) (by simpa using hx))
  obtain ⟨hx0, hx1⟩ := hx
  have Hl := Lib.hid hl
  have Hb := Lib.hid hb
  clear hb hl h
  go_enter Try.func67, Try.ntmps67
  go_wp2_with fail
  refine Hl.out.mono ?_
  rintro e w1 ⟨A1, c1, rfl, h1, h2, hown, hb1⟩
  have Hown := Lib.hid hown
  have Hb1 := Lib.hid hb1
  clear hown hb1
  go_wp2_with fail
  go_ret
  exact ⟨A1, c1, rfl, h1, h2, Hown.out.mono (by simp), below_trans Hb.out Hb1.out⟩
theorem u16_lays (A : Option Addr) (n c : Nat) (l : List Int) (x : Int) (w : World) (hx : 0 ≤ x ∧ x < 65536) (hc : n ≤ c ∧ c ≤ maxLen) (hm : n + 2 ≤ 140737488355328) (h : Rd w A n l) :
    Calls Try.prog 37 #[.slice A n c, .int .u16 x] w (RowIs (n + 2) (l ++ (be16 x)) w) := by
  have hb := (Below.refl w.heap.size w).alloc (Nat.le_refl _) (.cells ((be16 x).map (Value.int .u8)).toArray 5)
  have hl := lay_bytes A (some ⟨w.heap.size, 0, none⟩) n c 2 2 l (be16 x) _ hc (by simp [maxLen]) hm (h.below hb) (Rd.const w (be16 x) 5 (0, 0) (by unfold be16; simp; omega))
  obtain ⟨hx0, hx1⟩ := hx
  have Hl := Lib.hid hl
  have Hb := Lib.hid hb
  clear hb hl h
  go_enter Try.func37, Try.ntmps37
  go_wp2_with fail
  refine Hl.out.mono ?_
  rintro e w1 ⟨A1, c1, rfl, h1, h2, hown, hb1⟩
  have Hown := Lib.hid hown
  have Hb1 := Lib.hid hb1
  clear hown hb1
  go_wp2_with fail
  go_ret
  exact ⟨A1, c1, rfl, h1, h2, Hown.out.mono (by simp), below_trans Hb.out Hb1.out⟩
theorem u32_lays (A : Option Addr) (n c : Nat) (l : List Int) (x : Int) (w : World) (hx : 0 ≤ x ∧ x < 4294967296) (hc : n ≤ c ∧ c ≤ maxLen) (hm : n + 4 ≤ 140737488355328) (h : Rd w A n l) :
    Calls Try.prog 65 #[.slice A n c, .int .u32 x] w (RowIs (n + 4) (l ++ (be32 x)) w) := by
  have hb := (Below.refl w.heap.size w).alloc (Nat.le_refl _) (.cells ((be32 x).map (Value.int .u8)).toArray 5)
  have hl := lay_bytes A (some ⟨w.heap.size, 0, none⟩) n c 4 4 l (be32 x) _ hc (by simp [maxLen]) hm (h.below hb) (Rd.const w (be32 x) 5 (0, 0) (by unfold be32; simp; omega))
  obtain ⟨hx0, hx1⟩ := hx
  have Hl := Lib.hid hl
  have Hb := Lib.hid hb
  clear hb hl h
  go_enter Try.func65, Try.ntmps65
  go_wp2_with fail
  refine Hl.out.mono ?_
  rintro e w1 ⟨A1, c1, rfl, h1, h2, hown, hb1⟩
  have Hown := Lib.hid hown
  have Hb1 := Lib.hid hb1
  clear hown hb1
  go_wp2_with fail
  go_ret
  exact ⟨A1, c1, rfl, h1, h2, Hown.out.mono (by simp), below_trans Hb.out Hb1.out⟩

end Go.Proofs.Ytoegfgbalcholaa

/-
  ICMP messages (api.Message), plainly: their bytes, what is read, sorts, ids. No function of the program.
-/
namespace Go.Proofs.Ytoegfgbalcholaa
set_option maxRecDepth 10000
open Go.RowKit

/-- A message as numbers. -/
structure Msg where
  ty : Int
  cd : Int
  rs : Int
  d : List Int
structure MsgNum (s : Msg) : Prop where
  ty : 0 ≤ s.ty ∧ s.ty < 256
  cd : 0 ≤ s.cd ∧ s.cd < 256
  rs : 0 ≤ s.rs ∧ s.rs < 4294967296
/-- All but the field. -/
def headM (s : Msg) : List Int := [s.ty, s.cd]
def tailM (s : Msg) : List Int := be32 s.rs ++ s.d
def fieldM (s : Msg) : Int := 65535 - sumL (headM s ++ (be16 0 ++ tailM s))
/-- A message's bytes. -/
def msgB (s : Msg) : List Int := headM s ++ (be16 (fieldM s) ++ tailM s)
/-- 1: asked, 2: told, 3: an error, 0: other. -/
def sortM (ty cd : Int) : Int := if ty = 8 ∧ cd = 0 then 1 else if ty = 0 ∧ cd = 0 then 2 else if ty = 3 ∨ ty = 11 ∨ ty = 12 then 3 else 0
def echoM (ty cd : Int) : Bool := decide ((ty = 8 ∨ ty = 0) ∧ cd = 0)
/-- A message with another id. -/
def withM (s : Msg) (id : Int) : Msg := if echoM s.ty s.cd = true then ⟨s.ty, s.cd, 65536 * id + s.rs % 65536, s.d⟩ else s
theorem msgB_len (s : Msg) : (msgB s).length = 8 + s.d.length := by simp [msgB, headM, tailM, be16, be32]; omega
theorem fieldM_bd (s : Msg) : 0 ≤ fieldM s ∧ fieldM s ≤ 65535 := by unfold fieldM; have := sumL_bd (headM s ++ (be16 0 ++ tailM s)); omega
theorem be16_by {x : Int} (h : 0 ≤ x ∧ x < 65536) : ∀ y ∈ be16 x, 0 ≤ y ∧ y < 256 := by intro y hy; simp [be16] at hy; omega
theorem be32_by {x : Int} (h : 0 ≤ x ∧ x < 4294967296) : ∀ y ∈ be32 x, 0 ≤ y ∧ y < 256 := by intro y hy; simp [be32] at hy; omega
theorem headM_by {s : Msg} (h : MsgNum s) : ∀ y ∈ headM s, 0 ≤ y ∧ y < 256 := by have := h.ty; have := h.cd; intro y hy; simp [headM] at hy; omega
theorem tailM_by {s : Msg} (h : MsgNum s) (hd : ∀ x ∈ s.d, 0 ≤ x ∧ x < 256) : ∀ y ∈ tailM s, 0 ≤ y ∧ y < 256 := Bytes.app (be32_by h.rs) hd
theorem laidM_by {s : Msg} (h : MsgNum s) (hd : ∀ x ∈ s.d, 0 ≤ x ∧ x < 256) {f : Int} (hf : 0 ≤ f ∧ f < 65536) : ∀ y ∈ headM s ++ (be16 f ++ tailM s), 0 ≤ y ∧ y < 256 := Bytes.app (headM_by h) (Bytes.app (be16_by hf) (tailM_by h hd))
theorem msgB_by {s : Msg} (h : MsgNum s) (hd : ∀ x ∈ s.d, 0 ≤ x ∧ x < 256) : ∀ y ∈ msgB s, 0 ≤ y ∧ y < 256 := by
  have := fieldM_bd s
  exact laidM_by h hd (by omega)
/-- What the words but the field come to. -/
def restM (s : Msg) : Int := ws false (headM s) + ws false (tailM s)
theorem restM_nn {s : Msg} (h : MsgNum s) (hd : ∀ x ∈ s.d, 0 ≤ x ∧ x < 256) : 0 ≤ restM s := by
  have h1 := ws_nn _ (headM_by h) false
  have h2 := ws_nn _ (tailM_by h hd) false
  unfold restM; omega
theorem ws_b16 (x : Int) : ws false (be16 x) = x := by simp [be16, ws]; omega
theorem ws_laidM (s : Msg) (f : Int) : ws false (headM s ++ (be16 f ++ tailM s)) = restM s + f := by
  rw [ws_even _ _ (by simp [headM]), ws_even _ _ (by simp [be16]), ws_b16]
  unfold restM; omega
theorem fieldM_eq (s : Msg) : fieldM s = 65535 - fold16 (restM s) := by unfold fieldM sumL; rw [ws_laidM]; simp
theorem sum_msgB {s : Msg} (h : MsgNum s) (hd : ∀ x ∈ s.d, 0 ≤ x ∧ x < 256) : sumL (msgB s) = 65535 := by
  have h0 := restM_nn h hd
  unfold sumL msgB
  rw [ws_laidM, fieldM_eq]
  generalize restM s = r at *
  unfold fold16
  split <;> split <;> omega
end Go.Proofs.Ytoegfgbalcholaa
