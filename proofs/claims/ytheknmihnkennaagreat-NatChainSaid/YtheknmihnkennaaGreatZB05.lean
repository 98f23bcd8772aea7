/-
  Texts laid together: WireLay, Icmp, But, IcmpRef.
-/
import Derived.Test.YtheknmihnkennaaGreatZB03
import Derived.Test.YtheknmihnkennaaGreatZB04
import Derived.Test.YtheknmihnkennaaGreatZB02
import Derived.Lib.AppendZeros
import Derived.Lib.Hide
import Derived.Deep.LoopGhost
import Derived.LoopTactic
import Derived.Outline
import Derived.Test.YtheknmihnkennaaGreatZB01
import Derived.Deep.CutRange
import Derived.RegionTactic
import Derived.Laws.BitsLemmas

/-
  The contracts of slices.Grow (of nil), slices.Concat, and of package wire's U8, U16, U32: a row of bytes of the call's own.
-/
namespace Go.Proofs.YtheknmihnkennaaGreat
set_option maxRecDepth 10000
open Go.RowKit

theorem grow_zero (w : World) :
    Calls Tryz.prog 100 #[.slice none 0 0, .int .i64 0] w (RowIs 0 [] w) := by
  have Ho := Lib.hid (OwnB.nil w w.heap.size)
  go_enter Tryz.func100, Tryz.ntmps100
  go_wp2_with fail
  go_ret
  exact ⟨none, 0, rfl, Nat.le_refl _, by simp [maxLen], Ho.out, Below.refl _ _⟩

theorem grow_some (m : Nat) (w : World) (h0 : 0 < m) (hm : m ≤ 140737488355328) :
    Calls Tryz.prog 100 #[.slice none 0 0, .int .i64 (m : Int)] w (RowIs 0 [] w) := by
  obtain ⟨i0, hi, hz0, hz1, hz2⟩ := info_parts info5
  have hrz := fun ty => Lib.run_append_nil_zeros (P := Tryz.prog) w 22 3 ty 5 i0 (.int .u8 0) .i64 .i64 Tryz.underlying22 Tryz.underlying3 hi hz0 m h0 (by rw [hz1]; decide) (by omega) (by rw [hz2]; omega)
  have hG := grownCap_ge w m 0 5
  have hG2 := grownCap_le_maxLen w m 0 5 (by unfold maxLen; omega)
  obtain ⟨G, eG⟩ : ∃ G, grownCap w m 0 5 = G := ⟨_, rfl⟩
  rw [eG] at hrz hG hG2
  clear eG
  have hG3 : G ≤ 9223372036854775807 := by unfold maxLen at hG2; omega
  have HG2 := Lib.hid hG2
  have h0i : 0 < (m : Int) := by omega
  clear hG2
  go_enter Tryz.func100, Tryz.ntmps100
  go_wp2_with (at_builtin; refine Lib.wpList_append_run _ rfl _ _ _ _ rfl _ _ rfl rfl _ _ (hrz _) ?_)
  go_ret
  refine ⟨some ⟨w.heap.size, 0, none⟩, G, rfl, Nat.zero_le _, HG2.out, OwnB.made (cur := Builtin.zeroCells #[.int .u8 0] m ++ Builtin.zeroCells #[.int .u8 0] (G - m)) (heap_alloc_new w _) (Nat.le_refl _) HG2.out ?_, ((Below.refl _ _).alloc (Nat.le_refl _) _).drew⟩
  simp [Builtin.zeroCells]
  omega

theorem grow_nil (m : Nat) (w : World) (hm : m ≤ 140737488355328) :
    Calls Tryz.prog 100 #[.slice none 0 0, .int .i64 (m : Int)] w (RowIs 0 [] w) := by
  rcases Nat.eq_zero_or_pos m with h | h
  · subst h; exact grow_zero w
  · exact grow_some m w h hm

theorem flat_len_le (ls : List (List Int)) (k : Nat) : (ls.take k).flatten.length ≤ ls.flatten.length := by
  have h : ls.flatten = (ls.take k).flatten ++ (ls.drop k).flatten := by rw [← List.flatten_append, List.take_append_drop]
  rw [h, List.length_append]; omega

theorem concat_any (A : Option Addr) (n c : Nat) (ls : List (List Int)) (w : World) (hn : n ≤ 1000000) (h : RdL w A n ls) (hm : ls.flatten.length ≤ 140737488355328) :
    Calls Tryz.prog 68 #[.slice A n c] w (RowIs ls.flatten.length ls.flatten w) := by
  obtain ⟨T, hT⟩ : ∃ T, T = ls.flatten.length := ⟨_, rfl⟩
  rw [← hT] at hm ⊢
  have HT := Lib.hid hT
  have Hlen := Lib.hid h.len
  clear hT
  go_enter Tryz.func68, Tryz.ntmps68
  go_wp2_with fail
  go_loopg [3, 11] n (fun gk s i wr => ∃ j m : Nat, Hid (gk + j = n) ∧ j ≤ n ∧ i = .int .i64 (j : Int) ∧ m ≤ 140737488355328 ∧ s = .int .i64 (m : Int) ∧ Hid (m = (ls.take j).flatten.length) ∧ w = wr)
  case atStart => exact ⟨0, 0, rfl, Nat.zero_le _, rfl, by omega, rfl, rfl, rfl⟩
  case round =>
    obtain ⟨j, m, hgk, hj, rfl, hmj, rfl, hM, rfl⟩ := hrel
    by_cases hlt : j < n
    · obtain ⟨q, Ai, ci, hrunq, hqb, hcq, hci, hcm, hri⟩ := h.index (c := c) hlt
      have hsum : m + (ls.getD j []).length ≤ 140737488355328 := by
        have h1 := hM.out
        have h2 := flat_take ls j (by rw [Hlen.out]; exact hlt)
        have h3 := flat_len_le ls (j + 1)
        rw [h2, List.length_append, ← h1] at h3
        have := HT.out
        omega
      have Hs := Lib.hid (show m + (ls.getD j []).length = (ls.take (j + 1)).flatten.length by rw [flat_take ls j (by rw [Hlen.out]; exact hlt), List.length_append, ← hM.out])
      obtain ⟨k, ek⟩ : ∃ k, (ls.getD j []).length = k := ⟨_, rfl⟩
      rw [ek] at hcq hsum Hs
      clear hri hci ek
      go_wp2_with fail
      go_roundg (gk - 1)
      case measure => have := hgk.out; omega
      case rel => exact ⟨j + 1, m + k, by have := hgk.out; show gk - 1 + (j + 1) = _; omega, by omega, by go_num, hsum, by go_num, Hs, rfl⟩
    · obtain rfl : j = n := by omega
      have hmT : m = T := by
        have h1 := hM.out
        rw [List.take_of_length_le (by rw [Hlen.out]; exact Nat.le_refl _)] at h1
        rw [h1, HT.out]
      subst hmT
      go_wp2_with fail
      refine (grow_nil m _ hm).mono ?_
      rintro e w1 ⟨A1, c1, rfl, -, -, hown1, hb1⟩
      have hL := h
      have Hown1 := Lib.hid hown1
      have Hb1 := Lib.hid hb1
      clear hown1 hb1 hM hgk hj hmj h
      go_wp2_with fail
      go_loopg [6, 27] j (fun gk2 s i w2 => ∃ (k m2 : Nat) (A2 : Option Addr) (c2 : Nat), Hid (gk2 + k = j) ∧ k ≤ j ∧ i = .int .i64 (k : Int) ∧ m2 ≤ 140737488355328 ∧ s = .slice A2 m2 c2 ∧ Hid (OwnB w2 w.heap.size A2 m2 c2 (ls.take k).flatten) ∧ Below w.heap.size w w2)
      case atStart => exact ⟨0, 0, A1, c1, rfl, Nat.zero_le _, rfl, by omega, rfl, Hown1.out, Hb1.out⟩
      case round =>
        obtain ⟨k, m2, A2, c2, hgk2, hk, rfl, hm2, rfl, hown2, hb2⟩ := hrel
        have hbs := hb2.size
        by_cases hkj : k < j
        · obtain ⟨q, Ai, ci, hrunq, hqb, hcq0, hci, hcm, hri⟩ := hL.index (c := c) hkj
          have hcq : wr.cell? q = some (.slice Ai (ls.getD k []).length ci) := by rw [hb2.cell hqb]; exact hcq0
          have hri2 := hri.below hb2
          have hsum : m2 + (ls.getD k []).length ≤ 140737488355328 := by
            have h1 := hown2.out.len
            have h2 := flat_take ls k (by rw [Hlen.out]; exact hkj)
            have h3 := flat_len_le ls (k + 1)
            rw [h2, List.length_append, h1] at h3
            have := HT.out
            omega
          have Hri := Lib.hid hri2
          have Hf := Lib.hid (flat_take ls k (by rw [Hlen.out]; exact hkj))
          obtain ⟨k2, ek⟩ : ∃ k2, (ls.getD k []).length = k2 := ⟨_, rfl⟩
          rw [ek] at hcq hsum Hri
          clear hri hri2 hci ek hcq0
          go_wp2_with (refine wpList_app rfl (.tmp 31) (.tmp 32) rfl w.heap.size A2 Ai m2 c2 k2 ci _ _ rfl rfl hown2.out Hri.out hsum hbs ?_; intro A3 c3 w3 hown3 _ hb3 _)
          have Hown3 : Hid (OwnB w3 w.heap.size A3 (m2 + k2) c3 (ls.take (k + 1)).flatten) := by
            show OwnB _ _ _ _ _ _
            rw [Hf.out]; exact hown3
          clear hown3
          go_roundg (gk - 1)
          case measure => have := hgk2.out; omega
          case rel => exact ⟨k + 1, m2 + k2, A3, c3, by have := hgk2.out; show gk - 1 + (k + 1) = _; omega, by omega, by go_num, hsum, rfl, Hown3, hb2.trans hb3⟩
        · obtain rfl : k = j := by omega
          have hmm : m2 = m := by
            have h1 := hown2.out.len
            rw [List.take_of_length_le (by rw [Hlen.out]; exact Nat.le_refl _)] at h1
            have := HT.out
            omega
          subst hmm
          go_wp2_with fail
          go_ret
          have ho := hown2.out
          rw [List.take_of_length_le (by rw [Hlen.out]; exact Nat.le_refl _)] at ho
          exact ⟨A2, c2, rfl, ho.cap, ho.capMax, ho, hb2⟩

theorem RdL.twoW (w : World) (t : TypeId) (A A' : Option Addr) (n c n' c' : Nat) (l l' : List Int) (hc : n ≤ c ∧ c ≤ maxLen) (hc' : n' ≤ c' ∧ c' ≤ maxLen) (h : Rd w A n l) (h' : Rd w A' n' l') :
    RdL (w.alloc (.cells #[.slice A n c, .slice A' n' c'] t)) (some ⟨w.heap.size, 0, none⟩) 2 [l, l'] := by
  have hb : Below w.heap.size w (w.alloc (.cells #[.slice A n c, .slice A' n' c'] t)) := (Below.refl _ _).alloc (Nat.le_refl _) _
  refine ⟨rfl, fun _ => ⟨w.heap.size, 0, rfl, by simp, fun i hi => ?_⟩⟩
  have e : ∀ j, (w.alloc (.cells #[.slice A n c, .slice A' n' c'] t)).cell? ⟨w.heap.size, j, none⟩ = #[Value.slice A n c, .slice A' n' c'][j]? := fun j => by rw [World.cell?_alloc_mark]
  match i, hi with
  | 0, _ => exact ⟨A, c, by rw [e]; simp [h.len], by simpa [h.len] using hc.1, hc.2, by simpa [h.len] using h.below hb⟩
  | 1, _ => exact ⟨A', c', by rw [e]; simp [h'.len], by simpa [h'.len] using hc'.1, hc'.2, by simpa [h'.len] using h'.below hb⟩

theorem lay_bytes (A A' : Option Addr) (n c n' c' : Nat) (l l' : List Int) (w : World) (hc : n ≤ c ∧ c ≤ maxLen) (hc' : n' ≤ c' ∧ c' ≤ maxLen) (hm : n + n' ≤ 140737488355328) (h : Rd w A n l) (h' : Rd w A' n' l') :
    Calls Tryz.prog 101 #[.slice A n c, .slice A' n' c'] w (RowIs (n + n') (l ++ l') w) := by
  have hb := (Below.refl w.heap.size w).alloc (Nat.le_refl _) (.cells #[.slice A n c, .slice A' n' c'] 22)
  have hcc := concat_any (some ⟨w.heap.size, 0, none⟩) 2 2 [l, l'] _ (by omega) (RdL.twoW w 22 A A' n c n' c' l l' hc hc' h h') (by simp [h.len, h'.len]; omega)
  rw [show [l, l'].flatten = l ++ l' by simp, show (l ++ l').length = n + n' by simp [h.len, h'.len]] at hcc
  have Hcc := Lib.hid hcc
  have Hb := Lib.hid hb
  clear hb hcc h h'
  go_enter Tryz.func101, Tryz.ntmps101
  go_wp2_with fail
  refine Hcc.out.mono ?_
  rintro e w1 ⟨A1, c1, rfl, h1, h2, hown, hb1⟩
  have Hown := Lib.hid hown
  have Hb1 := Lib.hid hb1
  clear hown hb1
  go_wp2_with fail
  go_ret
  exact ⟨A1, c1, rfl, h1, h2, Hown.out.mono (by simp), below_trans Hb.out Hb1.out⟩

/-- A number's bytes, the highest first. -/
def be16 (x : Int) : List Int := [x / 256, x % 256]
def be32 (x : Int) : List Int := [x / 16777216, x / 65536 % 256, x / 256 % 256, x % 256]
theorem u8_lays (A : Option Addr) (n c : Nat) (l : List Int) (x : Int) (w : World) (hx : 0 ≤ x ∧ x < 256) (hc : n ≤ c ∧ c ≤ maxLen) (hm : n + 1 ≤ 140737488355328) (h : Rd w A n l) :
    Calls Tryz.prog 95 #[.slice A n c, .int .u8 x] w (RowIs (n + 1) (l ++ [x]) w) := by
  have hb := (Below.refl w.heap.size w).alloc (Nat.le_refl _) (.cells ([x].map (Value.int .u8)).toArray 5)
  have hl := lay_bytes A (some ⟨w.heap.size, 0, none⟩) n c 1 1 l [x] _ hc (by simp [maxLen]) hm (h.below hb) (Rd.const w [x] 5 (0, 0) (by simpa using hx))
  obtain ⟨hx0, hx1⟩ := hx
  have Hl := Lib.hid hl
  have Hb := Lib.hid hb
  clear hb hl h
  go_enter Tryz.func95, Tryz.ntmps95
  go_wp2_with fail
  refine Hl.out.mono ?_
  rintro e w1 ⟨A1, c1, rfl, h1, h2, hown, hb1⟩
  have Hown := Lib.hid hown
  have Hb1 := Lib.hid hb1
  clear hown hb1
  go_wp2_with fail
  go_ret
  exact ⟨A1, c1, rfl, h1, h2, Hown.out.mono (by simp), below_trans Hb.out Hb1.out⟩
theorem u16_lays (A : Option Addr) (n c : Nat) (l : List Int) (x : Int) (w : World) (hx : 0 ≤ x ∧ x < 65536) (hc : n ≤ c ∧ c ≤ maxLen) (hm : n + 2 ≤ 140737488355328) (h : Rd w A n l) :
    Calls Tryz.prog 69 #[.slice A n c, .int .u16 x] w (RowIs (n + 2) (l ++ (be16 x)) w) := by
  have hb := (Below.refl w.heap.size w).alloc (Nat.le_refl _) (.cells ((be16 x).map (Value.int .u8)).toArray 5)
  have hl := lay_bytes A (some ⟨w.heap.size, 0, none⟩) n c 2 2 l (be16 x) _ hc (by simp [maxLen]) hm (h.below hb) (Rd.const w (be16 x) 5 (0, 0) (by unfold be16; simp; omega))
  obtain ⟨hx0, hx1⟩ := hx
  have Hl := Lib.hid hl
  have Hb := Lib.hid hb
  clear hb hl h
  go_enter Tryz.func69, Tryz.ntmps69
  go_wp2_with fail
  refine Hl.out.mono ?_
  rintro e w1 ⟨A1, c1, rfl, h1, h2, hown, hb1⟩
  have Hown := Lib.hid hown
  have Hb1 := Lib.hid hb1
  clear hown hb1
  go_wp2_with fail
  go_ret
  exact ⟨A1, c1, rfl, h1, h2, Hown.out.mono (by simp), below_trans Hb.out Hb1.out⟩
theorem u32_lays (A : Option Addr) (n c : Nat) (l : List Int) (x : Int) (w : World) (hx : 0 ≤ x ∧ x < 4294967296) (hc : n ≤ c ∧ c ≤ maxLen) (hm : n + 4 ≤ 140737488355328) (h : Rd w A n l) :
    Calls Tryz.prog 93 #[.slice A n c, .int .u32 x] w (RowIs (n + 4) (l ++ (be32 x)) w) := by
  have hb := (Below.refl w.heap.size w).alloc (Nat.le_refl _) (.cells ((be32 x).map (Value.int .u8)).toArray 5)
  have hl := lay_bytes A (some ⟨w.heap.size, 0, none⟩) n c 4 4 l (be32 x) _ hc (by simp [maxLen]) hm (h.below hb) (Rd.const w (be32 x) 5 (0, 0) (by unfold be32; simp; omega))
  obtain ⟨hx0, hx1⟩ := hx
  have Hl := Lib.hid hl
  have Hb := Lib.hid hb
  clear hb hl h
  go_enter Tryz.func93, Tryz.ntmps93
  go_wp2_with fail
  refine Hl.out.mono ?_
  rintro e w1 ⟨A1, c1, rfl, h1, h2, hown, hb1⟩
  have Hown := Lib.hid hown
  have Hb1 := Lib.hid hb1
  clear hown hb1
  go_wp2_with fail
  go_ret
  exact ⟨A1, c1, rfl, h1, h2, Hown.out.mono (by simp), below_trans Hb.out Hb1.out⟩

end Go.Proofs.YtheknmihnkennaaGreat

/-
  ICMP messages (api.Message), plainly: their bytes, what is read, sorts, ids. No function of the program.
-/
namespace Go.Proofs.YtheknmihnkennaaGreat
set_option maxRecDepth 10000
open Go.RowKit

/-- A message as numbers. -/
structure Msg where
  ty : Int
  cd : Int
  rs : Int
  d : List Int
structure MsgNum (s : Msg) : Prop where
  ty : 0 ≤ s.ty ∧ s.ty < 256
  cd : 0 ≤ s.cd ∧ s.cd < 256
  rs : 0 ≤ s.rs ∧ s.rs < 4294967296
def zeroM : Msg := ⟨0, 0, 0, []⟩
/-- All but the field. -/
def headM (s : Msg) : List Int := [s.ty, s.cd]
def tailM (s : Msg) : List Int := be32 s.rs ++ s.d
def fieldM (s : Msg) : Int := 65535 - sumL (headM s ++ (be16 0 ++ tailM s))
/-- A message's bytes. -/
def msgB (s : Msg) : List Int := headM s ++ (be16 (fieldM s) ++ tailM s)
def m32 (b : List Int) (i : Nat) : Int := ((b.getD i 0 * 256 + b.getD (i + 1) 0) * 256 + b.getD (i + 2) 0) * 256 + b.getD (i + 3) 0
def errM (b : List Int) : Int := if 1480 < b.length then 3 else if b.length < 8 then 4 else if sumL b = 65535 then 0 else 20
def msgOf (b : List Int) : Msg := ⟨b.getD 0 0, b.getD 1 0, m32 b 4, b.drop 8⟩
def msgSame (s t : Msg) : Bool := decide (s.ty = t.ty) && (decide (s.cd = t.cd) && (decide (s.rs = t.rs) && decide (s.d = t.d)))
/-- 1: asked, 2: told, 3: an error, 0: other. -/
def sortM (ty cd : Int) : Int := if ty = 8 ∧ cd = 0 then 1 else if ty = 0 ∧ cd = 0 then 2 else if ty = 3 ∨ ty = 11 ∨ ty = 12 then 3 else 0
def echoM (ty cd : Int) : Bool := decide ((ty = 8 ∨ ty = 0) ∧ cd = 0)
theorem msgB_len (s : Msg) : (msgB s).length = 8 + s.d.length := by simp [msgB, headM, tailM, be16, be32]; omega
theorem fieldM_bd (s : Msg) : 0 ≤ fieldM s ∧ fieldM s ≤ 65535 := by unfold fieldM; have := sumL_bd (headM s ++ (be16 0 ++ tailM s)); omega
theorem be16_by {x : Int} (h : 0 ≤ x ∧ x < 65536) : ∀ y ∈ be16 x, 0 ≤ y ∧ y < 256 := by intro y hy; simp [be16] at hy; omega
theorem be32_by {x : Int} (h : 0 ≤ x ∧ x < 4294967296) : ∀ y ∈ be32 x, 0 ≤ y ∧ y < 256 := by intro y hy; simp [be32] at hy; omega
theorem headM_by {s : Msg} (h : MsgNum s) : ∀ y ∈ headM s, 0 ≤ y ∧ y < 256 := by have := h.ty; have := h.cd; intro y hy; simp [headM] at hy; omega
theorem tailM_by {s : Msg} (h : MsgNum s) (hd : ∀ x ∈ s.d, 0 ≤ x ∧ x < 256) : ∀ y ∈ tailM s, 0 ≤ y ∧ y < 256 := Bytes.app (be32_by h.rs) hd
theorem laidM_by {s : Msg} (h : MsgNum s) (hd : ∀ x ∈ s.d, 0 ≤ x ∧ x < 256) {f : Int} (hf : 0 ≤ f ∧ f < 65536) : ∀ y ∈ headM s ++ (be16 f ++ tailM s), 0 ≤ y ∧ y < 256 := Bytes.app (headM_by h) (Bytes.app (be16_by hf) (tailM_by h hd))
theorem msgB_by {s : Msg} (h : MsgNum s) (hd : ∀ x ∈ s.d, 0 ≤ x ∧ x < 256) : ∀ y ∈ msgB s, 0 ≤ y ∧ y < 256 := by
  have := fieldM_bd s
  exact laidM_by h hd (by omega)
theorem ws_b16 (x : Int) : ws false (be16 x) = x := by simp [be16, ws]; omega
theorem errM_zero {b : List Int} (h : errM b = 0) : b.length ≤ 1480 ∧ 8 ≤ b.length ∧ sumL b = 65535 := by
  unfold errM at h
  by_cases h1 : 1480 < b.length
  · rw [if_pos h1] at h; omega
  by_cases h2 : b.length < 8
  · rw [if_neg h1, if_pos h2] at h; omega
  by_cases h3 : sumL b = 65535
  · exact ⟨by omega, by omega, h3⟩
  · rw [if_neg h1, if_neg h2, if_neg h3] at h; omega
theorem eightM (b : List Int) (h : 8 ≤ b.length) : ∃ b0 b1 b2 b3 b4 b5 b6 b7 l, b = b0 :: b1 :: b2 :: b3 :: b4 :: b5 :: b6 :: b7 :: l := by
  match b, h with
  | b0 :: b1 :: b2 :: b3 :: b4 :: b5 :: b6 :: b7 :: l, _ => exact ⟨_, _, _, _, _, _, _, _, _, rfl⟩
theorem msgOf_num {b : List Int} (hb : ∀ x ∈ b, 0 ≤ x ∧ x < 256) (h8 : 8 ≤ b.length) : MsgNum (msgOf b) ∧ (∀ x ∈ (msgOf b).d, 0 ≤ x ∧ x < 256) := by
  refine ⟨?_, fun x hx => hb x (List.mem_of_mem_drop hx)⟩
  obtain ⟨b0, b1, b2, b3, b4, b5, b6, b7, l, rfl⟩ := eightM b h8
  simp only [List.mem_cons, forall_eq_or_imp] at hb
  obtain ⟨q0, q1, q2, q3, q4, q5, q6, q7, -⟩ := hb
  exact ⟨q0, q1, by simp [msgOf, m32]; omega⟩
end Go.Proofs.YtheknmihnkennaaGreat

/-
  'But S w w'': of what was there, nothing but the blocks in S has turned. No function of the program.
-/
namespace Go.Proofs.YtheknmihnkennaaGreat
set_option maxRecDepth 10000
open Go.RowKit

/-- Of what was there, nothing but the blocks in S has turned; the streams are as they were. -/
structure But (S : Nat → Prop) (w w' : World) : Prop where
  os : w'.os = w.os
  tape : w'.tape = w.tape
  output : w'.output = w.output
  size : w.heap.size ≤ w'.heap.size
  block : ∀ k, k < w.heap.size → ¬ S k → w'.heap[k]? = w.heap[k]?

variable {S S' : Nat → Prop} {a b c w w' : World}
theorem But.refl (S : Nat → Prop) (w : World) : But S w w := ⟨rfl, rfl, rfl, Nat.le_refl _, fun _ _ _ => rfl⟩
theorem But.trans (h : But S a b) (k : But S b c) : But S a c :=
  ⟨k.os.trans h.os, k.tape.trans h.tape, k.output.trans h.output, Nat.le_trans h.size k.size, fun i hi hs => (k.block i (Nat.lt_of_lt_of_le hi h.size) hs).trans (h.block i hi hs)⟩
theorem But.mono (h : But S w w') (hS : ∀ k, k < w.heap.size → S k → S' k) : But S' w w' := ⟨h.os, h.tape, h.output, h.size, fun k hk hn => h.block k hk (fun hs => hn (hS k hk hs))⟩
/-- Two steps, each with its own blocks. -/
theorem But.trans2 (h : But S a b) (k : But S' b c) (hS : ∀ k, k < a.heap.size → S' k → S k) : But S a c :=
  ⟨k.os.trans h.os, k.tape.trans h.tape, k.output.trans h.output, Nat.le_trans h.size k.size, fun i hi hs => (k.block i (Nat.lt_of_lt_of_le hi h.size) (fun x => hs (hS i hi x))).trans (h.block i hi hs)⟩
theorem But.setCell (h : But S a w) {p : Addr} (hp : S p.block) (u : Value) : But S a (w.setCell p u) :=
  h.trans ⟨rfl, rfl, rfl, by simp [World.setCell], fun k _ hn => Below.heap_setCell _ _ _ _ (fun e => hn (e ▸ hp))⟩
/-- A store into a block that is new. -/
theorem But.setNew (h : But S a w) {p : Addr} (hp : a.heap.size ≤ p.block) (u : Value) : But S a (w.setCell p u) :=
  ⟨h.os, h.tape, h.output, by have := h.size; simpa [World.setCell] using this, fun k hk hn => (Below.heap_setCell _ _ _ _ (by omega)).trans (h.block k hk hn)⟩
theorem But.alloc (h : But S a w) (o : Obj) : But S a (w.alloc o) :=
  ⟨h.os, h.tape, h.output, by have := h.size; simp; omega, fun k hk hn => (Below.heap_alloc _ _ _ (Nat.lt_of_lt_of_le hk h.size)).trans (h.block k hk hn)⟩
theorem But.drawn (h : But S a w) (n : Nat) : But S a { w with drawn := n } := ⟨h.os, h.tape, h.output, h.size, h.block⟩
theorem But.drew (h : But S a w) : But S a w.drew := ⟨h.os, h.tape, h.output, h.size, h.block⟩
theorem But.below {B : Nat} (h : But S w w') (hS : ∀ k, S k → B ≤ k) (hB : B ≤ w.heap.size) : Below B w w' := ⟨h.os, h.tape, h.output, h.size, fun k hk => h.block k (by omega) (fun hs => by have := hS k hs; omega)⟩
theorem But.old (h : But S w w') (hS : ∀ k, S k → w.heap.size ≤ k) : Below w.heap.size w w' := h.below hS (Nat.le_refl _)
theorem But.of (h : Below w.heap.size w w') : But S w w' := ⟨h.os, h.tape, h.output, h.size, fun k hk _ => h.block k hk⟩
theorem But.cell (h : But S w w') {p : Addr} (hp : p.block < w.heap.size) (hn : ¬ S p.block) : w'.cell? p = w.cell? p := World.cell?_of_block (w := w) (h.block p.block hp hn)
theorem But.lt {k : Nat} (h : But S w w') (hk : k < w.heap.size) : k < w'.heap.size := Nat.lt_of_lt_of_le hk h.size

theorem lt_of_block {w : World} {g : Nat} {o : Obj} (h : w.heap[g]? = some o) : g < w.heap.size := by
  rcases Nat.lt_or_ge g w.heap.size with h' | h'
  · exact h'
  · rw [Array.getElem?_eq_none h'] at h; cases h
theorem But.blk {k : Nat} {o : Obj} (h : But S w w') (hb : w.heap[k]? = some o) (hn : ¬ S k) : w'.heap[k]? = some o := (h.block k (lt_of_block hb) hn).trans hb

theorem Rd.but {A : Option Addr} {n : Nat} {l : List Int} (h : Rd w A n l) (hb : But S w w') (hn : ∀ g o, A = some ⟨g, o, none⟩ → 0 < n → ¬ S g) : Rd w' A n l :=
  ⟨h.len, h.byte, fun h0 => by
    obtain ⟨g, o, e, hlt, hc⟩ := h.at_ h0
    exact ⟨g, o, e, hb.lt hlt, fun i hi => by rw [hb.cell (p := ⟨g, o + i, none⟩) hlt (hn g o e h0)]; exact hc i hi⟩⟩

/-- A part of a row of bytes. -/
theorem Rd.drop_ {A : Option Addr} {n m : Nat} {l : List Int} {k : Nat} {g o : Nat} (h : Rd w A n l) (hA : A = some ⟨g, o, none⟩) (hk : n = k + m) : Rd w (some ⟨g, o + k, none⟩) m (l.drop k) := by
  subst hk
  refine ⟨by rw [List.length_drop, h.len]; omega, fun x hx => h.byte x (List.mem_of_mem_drop hx), fun h0 => ?_⟩
  obtain ⟨b, o', e, hlt, hc⟩ := h.at_ (by omega)
  rw [hA] at e
  injection e with e
  injection e with e1 e2
  subst e1; subst e2
  refine ⟨_, _, rfl, hlt, fun i hi => ?_⟩
  rw [Nat.add_assoc, hc (k + i) (by omega)]
  simp [List.getD, List.getElem?_drop]

/-- Rows of bytes and other things do not lie in one block. -/
theorem Rd.apart {A : Option Addr} {n : Nat} {l : List Int} {g o k : Nat} {cs : Array Value} {t : TypeId} {fr : Nat × Nat} (h : Rd w A n l) (hA : A = some ⟨g, o, none⟩) (h0 : 0 < n)
    (hk : w.heap[k]? = some (.cells cs t fr)) (hcs : ∀ (j : Nat) (x : Int), cs[j]? ≠ some (Value.int .u8 x)) : g ≠ k := by
  intro e
  subst e
  obtain ⟨b, o', e, hlt, hc⟩ := h.at_ h0
  rw [hA] at e
  injection e with e
  injection e with e1 e2
  subst e1; subst e2
  have := hc 0 h0
  simp [World.cell?, hk] at this
  exact hcs _ _ this

/-- A block that is known whole. -/
theorem blk_cell {w : World} {g : Nat} {C : Array Value} {t : TypeId} {fr : Nat × Nat} (h : w.heap[g]? = some (.cells C t fr)) (i : Nat) : w.cell? ⟨g, i, none⟩ = C[i]? := by simp [World.cell?, h]
theorem blk_free {w : World} {g : Nat} {C : Array Value} {t : TypeId} (h : w.heap[g]? = some (.cells C t (0, 0))) (i : Nat) : w.frozen? ⟨g, i, none⟩ = false := by simp [World.frozen?, h]
theorem blk_on {w w' : World} {g : Nat} {o : Obj} (h : w.heap[g]? = some o) (hb : Below w.heap.size w w') : w'.heap[g]? = some o := (hb.block g (lt_of_block h)).trans h
theorem OwnB.but {S : Nat → Prop} {w w' : World} {B : Nat} {A : Option Addr} {n c : Nat} {l : List Int} (h : OwnB w B A n c l) (hb : But S w w') (hS : ∀ k, B ≤ k → ¬ S k) : OwnB w' B A n c l := by
  refine ⟨h.1, ?_⟩
  rcases h.2 with h0 | ⟨g, cap, cur, e, hB, hc, hrest⟩
  · exact .inl h0
  · exact .inr ⟨g, cap, cur, e, hB, hb.blk hc (hS g hB), hrest⟩
end Go.Proofs.YtheknmihnkennaaGreat

/-
  The document's own answers for messages (culvertref08): Sort, Echo, WithId, Same.
-/
namespace Go.Proofs.YtheknmihnkennaaGreat
set_option maxRecDepth 10000
open Go.RowKit

theorem cells4 {w : World} {g : Nat} {u0 u1 u2 u3 : Value} {t : TypeId} (h : w.heap[g]? = some (.cells #[u0, u1, u2, u3] t (0, 0))) : w.cell? ⟨g, 0, none⟩ = some u0 ∧ w.cell? ⟨g, 1, none⟩ = some u1 ∧ w.cell? ⟨g, 2, none⟩ = some u2 ∧ w.cell? ⟨g, 3, none⟩ = some u3 := ⟨by rw [blk_cell h]; rfl, by rw [blk_cell h]; rfl, by rw [blk_cell h]; rfl, by rw [blk_cell h]; rfl⟩
def IntIs (x : Int) (w : World) (e : Ending) (w' : World) : Prop := e = .returned (.int .i64 x) ∧ Below w.heap.size w w'
theorem sort_echo (ty cd : Int) : echoM ty cd = true ∧ (sortM ty cd = 1 ∨ sortM ty cd = 2) ∨ echoM ty cd = false ∧ (sortM ty cd = 0 ∨ sortM ty cd = 3) := by
  unfold echoM sortM
  by_cases h1 : ty = 8 ∧ cd = 0
  · obtain ⟨rfl, rfl⟩ := h1; simp
  · by_cases h2 : ty = 0 ∧ cd = 0
    · obtain ⟨rfl, rfl⟩ := h2; simp
    · rw [if_neg h1, if_neg h2]
      refine .inr ⟨by (simp <;> omega), ?_⟩
      split
      · exact .inr rfl
      · exact .inl rfl
/-- An echo's id and number. -/
def EchoIs (ty cd rs : Int) (w : World) (e : Ending) (w' : World) : Prop :=
  (if echoM ty cd = true then e = .returned (.tuple #[.int .u16 (rs / 65536), .int .u16 (rs % 65536), .bool true]) else e = .returned (.tuple #[.int .u16 0, .int .u16 0, .bool false])) ∧ Below w.heap.size w w'
theorem set_cell4 {w : World} {q : Nat} {u0 u1 u2 u3 : Value} {t : TypeId} (h : w.heap[q]? = some (.cells #[u0, u1, u2, u3] t (0, 0))) (v : Value) : (w.setCell ⟨q, 2, none⟩ v).heap[q]? = some (.cells #[u0, u1, v, u3] t (0, 0)) := by
  simp [World.setCell, Array.getElem?_modify, h]
theorem set4_blk {w : World} {q : Nat} {u0 u1 u2 u3 : Value} {t : TypeId} (h : w.heap[q]? = some (.cells #[u0, u1, u2, u3] t (0, 0))) (v0 v1 v2 v3 : Value) :
    ((((w.setCell ⟨q, 0, none⟩ v0).setCell ⟨q, 1, none⟩ v1).setCell ⟨q, 2, none⟩ v2).setCell ⟨q, 3, none⟩ v3).heap[q]? = some (.cells #[v0, v1, v2, v3] t (0, 0)) := by
  simp [World.setCell, Array.getElem?_modify, h]
theorem other_blk {w : World} {q p i : Nat} {o : Obj} (h : w.heap[q]? = some o) (hn : p ≠ q) (v : Value) : (w.setCell ⟨p, i, none⟩ v).heap[q]? = some o := by
  simp [World.setCell, Array.getElem?_modify, h, hn]
end Go.Proofs.YtheknmihnkennaaGreat
