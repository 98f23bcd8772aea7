/-
  The document's own Cut (culvertref01), byte by byte: it tells what 'cutFrom' and 'cutBytes' say.
-/
import Derived.Test.YtonbgkdobfefmaaBytesApp
namespace Go.Proofs.Ytonbgkdobfefmaa
open Go.RowKit

/-- What has been told after k rounds: how many bytes, which, and where they begin. -/
def rQ (lo hi k : Nat) : Nat := min k hi - lo
def rBs (l : List Int) (lo hi k : Nat) : List Int := (l.drop lo).take (rQ lo hi k)
def rAt (at_ f : Int) (lo hi k : Nat) : Int := if min k hi ≤ lo then f else sAdd at_ lo

theorem rBs_out {l : List Int} {lo hi k : Nat} (h : k < lo ∨ hi ≤ k) : rBs l lo hi (k + 1) = rBs l lo hi k := by
  unfold rBs rQ
  rcases h with h | h
  · rw [show min (k + 1) hi - lo = min k hi - lo by omega]
  · rw [show min (k + 1) hi - lo = min k hi - lo by omega]
theorem rQ_out {lo hi k : Nat} (h : k < lo ∨ hi ≤ k) : rQ lo hi (k + 1) = rQ lo hi k := by unfold rQ; omega
theorem rAt_out {at_ f : Int} {lo hi k : Nat} (h : k < lo ∨ hi ≤ k) : rAt at_ f lo hi (k + 1) = rAt at_ f lo hi k := by
  unfold rAt
  by_cases h1 : min k hi ≤ lo
  · rw [if_pos h1, if_pos (by omega)]
  · rw [if_neg h1, if_neg (by omega)]
theorem rQ_in {lo hi k : Nat} (h : lo ≤ k) (h2 : k < hi) : rQ lo hi (k + 1) = rQ lo hi k + 1 := by unfold rQ; omega
theorem rBs_in {l : List Int} {lo hi k : Nat} (h : lo ≤ k) (h2 : k < hi) (hk : k < l.length) : rBs l lo hi (k + 1) = rBs l lo hi k ++ [l.getD k 0] := by
  unfold rBs
  rw [rQ_in h h2]
  have h3 : rQ lo hi k = k - lo := by unfold rQ; omega
  rw [h3, List.take_add_one, List.getElem?_drop, show lo + (k - lo) = k by omega]
  simp [List.getD, List.getElem?_eq_getElem hk]
theorem rAt_first {at_ f : Int} {lo hi : Nat} (h2 : lo < hi) : rAt at_ f lo hi (lo + 1) = sAdd at_ lo := by unfold rAt; rw [if_neg (by omega)]
theorem rAt_more {at_ f : Int} {lo hi k : Nat} (h : lo < k) (h2 : k < hi) : rAt at_ f lo hi (k + 1) = rAt at_ f lo hi k := by
  unfold rAt; rw [if_neg (by omega), if_neg (by omega)]

theorem rahead_is (a b s : Int) (w : World) (ha : U32 a) (hb : U32 b) (h : Hid (s = sAhead a b)) :
    Calls Try.prog 9 #[.int .u32 a, .int .u32 b] w fun e w' => e = .returned (.int .i32 s) ∧ w = w' := by
  rw [h.out]; exact rahead_any a b w ha hb

/-- What Cut of the document tells, as its loop leaves it. -/
def RPost (x : Int) (q : Nat) (bs : List Int) (w : World) (e : Ending) (w' : World) : Prop :=
  ∃ A' c', e = .returned (.tuple #[.int .u32 x, .slice A' q c']) ∧ OwnB w' w.heap.size A' q c' bs ∧ Below w.heap.size w w'

set_option maxHeartbeats 2000000 in
theorem rcut_zero (at_ f lg s : Int) (A : Option Addr) (c : Nat) (w : World) (ha : U32 at_) (hf : U32 f) (hs : s = sAhead f at_) :
    Calls Try.prog 19 #[.int .u32 at_, .slice A 0 c, .int .u32 f, .int .u32 lg] w (RPost f 0 [] w) := by
  have Hs := Lib.hid hs
  have hsb := sAhead_bd f at_
  rw [← hs] at hsb
  clear hs
  have Ha := Lib.hid ha
  have Hf := Lib.hid hf
  clear ha hf
  obtain ⟨hs0, hs1⟩ := hsb
  have hpost : RPost f 0 [] w (.returned (.tuple #[.int .u32 f, .slice none 0 0])) w := ⟨none, 0, rfl, OwnB.nil _ _, Below.refl _ _⟩
  obtain ⟨P, hP⟩ : ∃ P, P = RPost f 0 [] w := ⟨_, rfl⟩
  rw [← hP] at hpost ⊢
  clear hP
  by_cases hlg : 2147483647 < lg
  all_goals
    go_enter Try.func19, Try.ntmps19
    go_wp2_with (go_at_call 9; refine (rahead_is _ _ s _ Hf.out Ha.out Hs).mono ?_; rintro e w' ⟨rfl, rfl⟩)
    go_loopw [11, 12, 13] (fun v x i wr => v = .slice none 0 0 ∧ x = .int .u32 f ∧ i = .int .i64 0 ∧ wr = w) (fun _ _ _ _ => 0)
    case atStart => exact ⟨rfl, rfl, rfl, rfl⟩
    case round =>
      obtain ⟨rfl, rfl, rfl, rfl⟩ := hrel
      go_wp2
      exact hpost

set_option maxHeartbeats 4000000 in
theorem rcut_loop (at_ f lg s : Int) (b o n c lo hi : Nat) (l : List Int) (w : World) (ha : U32 at_) (hf : U32 f) (hl : U32 lg) (hlm : lg ≤ 2147483647) (hn : n ≤ 1000000) (hc : n ≤ c) (hlen : l.length = n) (hbyte : ∀ x ∈ l, 0 ≤ x ∧ x < 256) (hb : b < w.heap.size)
    (hcell : ∀ i, i < n → w.cell? ⟨b, o + i, none⟩ = some (.int .u8 (l.getD i 0)))
    (hs : s = sAhead f at_) (hlo : lo = pl (0 - s) n) (hhi : hi = pl (lg - s) n) :
    Calls Try.prog 19 #[.int .u32 at_, .slice (some ⟨b, o, none⟩) n c, .int .u32 f, .int .u32 lg] w (RPost (rAt at_ f lo hi n) (rQ lo hi n) (rBs l lo hi n) w) := by
  have Hs := Lib.hid hs
  have hsb := sAhead_bd f at_
  rw [← hs] at hsb
  clear hs
  have Ha := Lib.hid ha
  have Hf := Lib.hid hf
  obtain ⟨ha0, ha1⟩ := ha
  obtain ⟨hf0, hf1⟩ := hf
  obtain ⟨hl0, hl1⟩ := hl
  obtain ⟨hs0, hs1⟩ := hsb
  have Hlo := Lib.hid hlo
  have Hhi := Lib.hid hhi
  clear hlo hhi
  have Hcell := Lib.hid hcell
  have Hlen := Lib.hid hlen
  have Hbyte := Lib.hid hbyte
  clear hcell hlen hbyte
  go_enter Try.func19, Try.ntmps19
  go_wp2_with (go_at_call 9; refine (rahead_is _ _ s _ Hf.out Ha.out Hs).mono ?_; rintro e w' ⟨rfl, rfl⟩)
  go_loopw [11, 12, 13] (fun out bg i wr => ∃ (k q : Nat) (A' : Option Addr) (c' : Nat) (x : Int) (bs : List Int), k ≤ n ∧ i = .int .i64 k ∧ out = .slice A' q c' ∧ bg = .int .u32 x ∧ Hid (q = rQ lo hi k) ∧ Hid (x = rAt at_ f lo hi k) ∧ Hid (bs = rBs l lo hi k) ∧ OwnB wr w.heap.size A' q c' bs ∧ Below w.heap.size w wr)
    (fun _ _ i _ => n - (intOf i).toNat)
  case atStart => exact ⟨0, 0, none, 0, f, [], Nat.zero_le _, rfl, rfl, rfl, (by show 0 = rQ lo hi 0; unfold rQ; omega), (by show f = rAt at_ f lo hi 0; unfold rAt; rw [if_pos (by omega)]), (by show [] = rBs l lo hi 0; unfold rBs rQ; simp), OwnB.nil _ _, Below.refl _ _⟩
  case round =>
    obtain ⟨k, q, A', c', x, bs, hk, rfl, rfl, rfl, Hq, Hx, Hbs, hown, hbel⟩ := hrel
    have hlo := Hlo.out
    have hhi := Hhi.out
    by_cases hkn : k < n
    · by_cases h1 : k < lo
      · have hp : s + (k : Int) < 0 := by unfold pl at hlo; omega
        have Ho : Hid (k < lo ∨ hi ≤ k) := .inl h1
        clear hlo hhi h1
        go_wp2
        go_roundw
        case rel => exact ⟨k + 1, q, A', c', x, bs, by omega, by go_num, rfl, rfl, by show q = _; rw [rQ_out Ho.out]; exact Hq, by show x = _; rw [rAt_out Ho.out]; exact Hx, by show bs = _; rw [rBs_out Ho.out]; exact Hbs, hown, hbel⟩
        case measure => simp [intOf]; omega
      · have hp0 : 0 ≤ s + (k : Int) := by unfold pl at hlo; omega
        by_cases h2 : hi ≤ k
        · have hp1 : lg ≤ s + (k : Int) := by unfold pl at hhi; omega
          have Ho : Hid (k < lo ∨ hi ≤ k) := .inr h2
          clear hlo hhi h1 h2
          go_wp2
          go_roundw
          case rel => exact ⟨k + 1, q, A', c', x, bs, by omega, by go_num, rfl, rfl, by show q = _; rw [rQ_out Ho.out]; exact Hq, by show x = _; rw [rAt_out Ho.out]; exact Hx, by show bs = _; rw [rBs_out Ho.out]; exact Hbs, hown, hbel⟩
          case measure => simp [intOf]; omega
        · have hp1 : s + (k : Int) < lg := by unfold pl at hhi; omega
          have hcell : wr.cell? ⟨b, o + k, none⟩ = some (.int .u8 (l.getD k 0)) := (hbel.cell (p := ⟨b, o + k, none⟩) hb).trans (Hcell.out k hkn)
          have hrng : 0 ≤ l.getD k 0 ∧ l.getD k 0 < 256 := Hbyte.out _ (by have := Hlen.out; simp [List.getD, List.getElem?_eq_getElem (show k < l.length by omega)])
          have hki : (k : Int) < (n : Int) := by omega
          have hq : q = k - lo := by have := Hq.out; unfold rQ at this; omega
          have Hin : Hid (lo ≤ k ∧ k < hi) := ⟨by omega, by omega⟩
          have Hkl : Hid (k < l.length) := by show k < l.length; rw [Hlen.out]; exact hkn
          have Hrd := Lib.hid (Rd.one wr (l.getD k 0) hrng)
          have Hown := Lib.hid (hown.alloc (.cells #[.int .u8 (l.getD k 0)] 5))
          have hbs := hbel.size
          have hbel1 := hbel.alloc hbs (.cells #[.int .u8 (l.getD k 0)] 5)
          obtain ⟨y, ey⟩ : ∃ y, l.getD k 0 = y := ⟨_, rfl⟩
          have Ey := Lib.hid ey
          rw [ey] at hcell Hrd Hown hbel1
          clear hlo hhi h1 h2 hrng ey
          by_cases h3 : k = lo
          · obtain rfl : q = 0 := by omega
            subst h3
            clear hq
            go_wp2_with (first | (go_at_call 12; refine (radd_any _ _ _ Ha.out).mono ?_; rintro e w' ⟨rfl, rfl⟩) | (refine wpList_app rfl (.tmp 45) (.tmp 50) rfl w.heap.size A' (some ⟨wr.heap.size, 0, none⟩) 0 c' 1 1 bs [y] rfl rfl Hown.out Hrd.out (by omega) (by simp; omega) ?_; intro A2 c2 w2 hown2 _ hbel2 _))
            go_roundw
            case rel => exact ⟨k + 1, 1, A2, c2, sAdd at_ k, bs ++ [y], by omega, by go_num, rfl, rfl, by show 1 = _; rw [rQ_in Hin.out.1 Hin.out.2]; have := Hq.out; omega, by show sAdd at_ k = _; rw [rAt_first Hin.out.2], by show bs ++ [y] = _; rw [rBs_in Hin.out.1 Hin.out.2 Hkl.out, Ey.out, Hbs.out], hown2, hbel1.trans hbel2⟩
            case measure => simp [intOf]; omega
          · have hq0 : 0 < q := by have := Hin.out; omega
            have hqn : q ≤ n := by omega
            have hq1 : ((q : Int) == 0) = false := by simp; omega
            have Hlt : Hid (lo < k) := by show lo < k; have := Hin.out; omega
            clear h3 hq
            go_wp2_with (first | (refine wpList_app rfl (.tmp 45) (.tmp 50) rfl w.heap.size A' (some ⟨wr.heap.size, 0, none⟩) q c' 1 1 bs [y] rfl rfl Hown.out Hrd.out (by omega) (by simp; omega) ?_; intro A2 c2 w2 hown2 _ hbel2 _))
            go_roundw
            case rel => exact ⟨k + 1, q + 1, A2, c2, x, bs ++ [y], by omega, by go_num, rfl, rfl, by show q + 1 = _; rw [rQ_in Hin.out.1 Hin.out.2, Hq.out], by show x = _; rw [rAt_more Hlt.out Hin.out.2, Hx.out], by show bs ++ [y] = _; rw [rBs_in Hin.out.1 Hin.out.2 Hkl.out, Ey.out, Hbs.out], hown2, hbel1.trans hbel2⟩
            case measure => simp [intOf]; omega
    · obtain rfl : k = n := by omega
      have hpost : RPost (rAt at_ f lo hi k) (rQ lo hi k) (rBs l lo hi k) w (.returned (.tuple #[.int .u32 x, .slice A' q c'])) wr := ⟨A', c', by rw [Hx.out, Hq.out], by rw [← Hq.out, ← Hbs.out]; exact hown, hbel⟩
      have Hpost := Lib.hid hpost
      clear hpost hlo hhi hkn
      go_wp2
      go_ret2
      exact Hpost.out

set_option maxHeartbeats 4000000 in
theorem rcut_over (at_ f lg s : Int) (b o n c lo hi : Nat) (l : List Int) (w : World) (ha : U32 at_) (hf : U32 f) (hl : U32 lg) (hlm : 2147483647 < lg) (hn : n ≤ 1000000) (hc : n ≤ c) (hlen : l.length = n) (hbyte : ∀ x ∈ l, 0 ≤ x ∧ x < 256) (hb : b < w.heap.size)
    (hcell : ∀ i, i < n → w.cell? ⟨b, o + i, none⟩ = some (.int .u8 (l.getD i 0)))
    (hs : s = sAhead f at_) (hlo : lo = pl (0 - s) n) (hhi : hi = pl ((2147483647 : Int) - s) n) :
    Calls Try.prog 19 #[.int .u32 at_, .slice (some ⟨b, o, none⟩) n c, .int .u32 f, .int .u32 lg] w (RPost (rAt at_ f lo hi n) (rQ lo hi n) (rBs l lo hi n) w) := by
  have Hs := Lib.hid hs
  have hsb := sAhead_bd f at_
  rw [← hs] at hsb
  clear hs
  have Ha := Lib.hid ha
  have Hf := Lib.hid hf
  obtain ⟨ha0, ha1⟩ := ha
  obtain ⟨hf0, hf1⟩ := hf
  obtain ⟨hl0, hl1⟩ := hl
  obtain ⟨hs0, hs1⟩ := hsb
  have Hlo := Lib.hid hlo
  have Hhi := Lib.hid hhi
  clear hlo hhi
  have Hcell := Lib.hid hcell
  have Hlen := Lib.hid hlen
  have Hbyte := Lib.hid hbyte
  clear hcell hlen hbyte
  go_enter Try.func19, Try.ntmps19
  go_wp2_with (go_at_call 9; refine (rahead_is _ _ s _ Hf.out Ha.out Hs).mono ?_; rintro e w' ⟨rfl, rfl⟩)
  go_loopw [11, 12, 13] (fun out bg i wr => ∃ (k q : Nat) (A' : Option Addr) (c' : Nat) (x : Int) (bs : List Int), k ≤ n ∧ i = .int .i64 k ∧ out = .slice A' q c' ∧ bg = .int .u32 x ∧ Hid (q = rQ lo hi k) ∧ Hid (x = rAt at_ f lo hi k) ∧ Hid (bs = rBs l lo hi k) ∧ OwnB wr w.heap.size A' q c' bs ∧ Below w.heap.size w wr)
    (fun _ _ i _ => n - (intOf i).toNat)
  case atStart => exact ⟨0, 0, none, 0, f, [], Nat.zero_le _, rfl, rfl, rfl, (by show 0 = rQ lo hi 0; unfold rQ; omega), (by show f = rAt at_ f lo hi 0; unfold rAt; rw [if_pos (by omega)]), (by show [] = rBs l lo hi 0; unfold rBs rQ; simp), OwnB.nil _ _, Below.refl _ _⟩
  case round =>
    obtain ⟨k, q, A', c', x, bs, hk, rfl, rfl, rfl, Hq, Hx, Hbs, hown, hbel⟩ := hrel
    have hlo := Hlo.out
    have hhi := Hhi.out
    by_cases hkn : k < n
    · by_cases h1 : k < lo
      · have hp : s + (k : Int) < 0 := by unfold pl at hlo; omega
        have Ho : Hid (k < lo ∨ hi ≤ k) := .inl h1
        clear hlo hhi h1
        go_wp2
        go_roundw
        case rel => exact ⟨k + 1, q, A', c', x, bs, by omega, by go_num, rfl, rfl, by show q = _; rw [rQ_out Ho.out]; exact Hq, by show x = _; rw [rAt_out Ho.out]; exact Hx, by show bs = _; rw [rBs_out Ho.out]; exact Hbs, hown, hbel⟩
        case measure => simp [intOf]; omega
      · have hp0 : 0 ≤ s + (k : Int) := by unfold pl at hlo; omega
        by_cases h2 : hi ≤ k
        · have hp1 : (2147483647 : Int) ≤ s + (k : Int) := by unfold pl at hhi; omega
          have Ho : Hid (k < lo ∨ hi ≤ k) := .inr h2
          clear hlo hhi h1 h2
          go_wp2
          go_roundw
          case rel => exact ⟨k + 1, q, A', c', x, bs, by omega, by go_num, rfl, rfl, by show q = _; rw [rQ_out Ho.out]; exact Hq, by show x = _; rw [rAt_out Ho.out]; exact Hx, by show bs = _; rw [rBs_out Ho.out]; exact Hbs, hown, hbel⟩
          case measure => simp [intOf]; omega
        · have hp1 : s + (k : Int) < (2147483647 : Int) := by unfold pl at hhi; omega
          have hcell : wr.cell? ⟨b, o + k, none⟩ = some (.int .u8 (l.getD k 0)) := (hbel.cell (p := ⟨b, o + k, none⟩) hb).trans (Hcell.out k hkn)
          have hrng : 0 ≤ l.getD k 0 ∧ l.getD k 0 < 256 := Hbyte.out _ (by have := Hlen.out; simp [List.getD, List.getElem?_eq_getElem (show k < l.length by omega)])
          have hki : (k : Int) < (n : Int) := by omega
          have hq : q = k - lo := by have := Hq.out; unfold rQ at this; omega
          have Hin : Hid (lo ≤ k ∧ k < hi) := ⟨by omega, by omega⟩
          have Hkl : Hid (k < l.length) := by show k < l.length; rw [Hlen.out]; exact hkn
          have Hrd := Lib.hid (Rd.one wr (l.getD k 0) hrng)
          have Hown := Lib.hid (hown.alloc (.cells #[.int .u8 (l.getD k 0)] 5))
          have hbs := hbel.size
          have hbel1 := hbel.alloc hbs (.cells #[.int .u8 (l.getD k 0)] 5)
          obtain ⟨y, ey⟩ : ∃ y, l.getD k 0 = y := ⟨_, rfl⟩
          have Ey := Lib.hid ey
          rw [ey] at hcell Hrd Hown hbel1
          clear hlo hhi h1 h2 hrng ey
          by_cases h3 : k = lo
          · obtain rfl : q = 0 := by omega
            subst h3
            clear hq
            go_wp2_with (first | (go_at_call 12; refine (radd_any _ _ _ Ha.out).mono ?_; rintro e w' ⟨rfl, rfl⟩) | (refine wpList_app rfl (.tmp 45) (.tmp 50) rfl w.heap.size A' (some ⟨wr.heap.size, 0, none⟩) 0 c' 1 1 bs [y] rfl rfl Hown.out Hrd.out (by omega) (by simp; omega) ?_; intro A2 c2 w2 hown2 _ hbel2 _))
            go_roundw
            case rel => exact ⟨k + 1, 1, A2, c2, sAdd at_ k, bs ++ [y], by omega, by go_num, rfl, rfl, by show 1 = _; rw [rQ_in Hin.out.1 Hin.out.2]; have := Hq.out; omega, by show sAdd at_ k = _; rw [rAt_first Hin.out.2], by show bs ++ [y] = _; rw [rBs_in Hin.out.1 Hin.out.2 Hkl.out, Ey.out, Hbs.out], hown2, hbel1.trans hbel2⟩
            case measure => simp [intOf]; omega
          · have hq0 : 0 < q := by have := Hin.out; omega
            have hqn : q ≤ n := by omega
            have hq1 : ((q : Int) == 0) = false := by simp; omega
            have Hlt : Hid (lo < k) := by show lo < k; have := Hin.out; omega
            clear h3 hq
            go_wp2_with (first | (refine wpList_app rfl (.tmp 45) (.tmp 50) rfl w.heap.size A' (some ⟨wr.heap.size, 0, none⟩) q c' 1 1 bs [y] rfl rfl Hown.out Hrd.out (by omega) (by simp; omega) ?_; intro A2 c2 w2 hown2 _ hbel2 _))
            go_roundw
            case rel => exact ⟨k + 1, q + 1, A2, c2, x, bs ++ [y], by omega, by go_num, rfl, rfl, by show q + 1 = _; rw [rQ_in Hin.out.1 Hin.out.2, Hq.out], by show x = _; rw [rAt_more Hlt.out Hin.out.2, Hx.out], by show bs ++ [y] = _; rw [rBs_in Hin.out.1 Hin.out.2 Hkl.out, Ey.out, Hbs.out], hown2, hbel1.trans hbel2⟩
            case measure => simp [intOf]; omega
    · obtain rfl : k = n := by omega
      have hpost : RPost (rAt at_ f lo hi k) (rQ lo hi k) (rBs l lo hi k) w (.returned (.tuple #[.int .u32 x, .slice A' q c'])) wr := ⟨A', c', by rw [Hx.out, Hq.out], by rw [← Hq.out, ← Hbs.out]; exact hown, hbel⟩
      have Hpost := Lib.hid hpost
      clear hpost hlo hhi hkn
      go_wp2
      go_ret2
      exact Hpost.out

/-- The document's Cut tells what 'cutFrom' and 'cutBytes' say. -/
theorem rcut_rd (at_ f lg : Int) (A : Option Addr) (n c : Nat) (l : List Int) (w : World) (ha : U32 at_) (hf : U32 f) (hl : U32 lg) (hn : n ≤ 1000000) (hc : n ≤ c) (h : Rd w A n l) :
    Calls Try.prog 19 #[.int .u32 at_, .slice A n c, .int .u32 f, .int .u32 lg] w (CutRd at_ f lg l w) := by
  have hlen := h.len
  rcases Nat.eq_zero_or_pos n with h0 | h0
  · subst h0
    obtain rfl : l = [] := List.eq_nil_of_length_eq_zero hlen
    have e1 : cutBytes at_ f lg [] = [] := by unfold cutBytes; simp
    have e2 : cutFrom at_ f lg [] = f := by unfold cutFrom pl; simp; omega
    refine (rcut_zero at_ f lg _ A c w ha hf rfl).mono fun e w' ⟨A', c', he, ho, hb⟩ => ⟨A', c', ?_, ?_, ?_, hb⟩
    · rw [he, e1, e2]; rfl
    · rw [e1]; exact ho.cap
    · rw [e1]; exact ho.rd (by simp)
  · obtain ⟨b, o, rfl, hlt, hcell⟩ := h.at_ h0
    have key : Calls Try.prog 19 #[.int .u32 at_, .slice (some ⟨b, o, none⟩) n c, .int .u32 f, .int .u32 lg] w
        (RPost (rAt at_ f (pl (0 - sAhead f at_) n) (pl (min lg 2147483647 - sAhead f at_) n) n) (rQ (pl (0 - sAhead f at_) n) (pl (min lg 2147483647 - sAhead f at_) n) n) (rBs l (pl (0 - sAhead f at_) n) (pl (min lg 2147483647 - sAhead f at_) n) n) w) := by
      by_cases hlg : lg ≤ 2147483647
      · exact rcut_loop at_ f lg _ b o n c _ _ l w ha hf hl hlg hn hc hlen h.byte hlt hcell rfl rfl (by rw [show min lg 2147483647 = lg by omega])
      · exact rcut_over at_ f lg _ b o n c _ _ l w ha hf hl (by omega) hn hc hlen h.byte hlt hcell rfl rfl (by rw [show min lg 2147483647 = 2147483647 by omega])
    have hmono : pl (0 - sAhead f at_) n ≤ pl (min lg 2147483647 - sAhead f at_) n := pl_mono n (by have := hl.1; omega)
    have hle : pl (min lg 2147483647 - sAhead f at_) n ≤ n := pl_le _ _
    refine key.mono fun e w' ⟨A', c', he, ho, hb⟩ => ?_
    generalize hlo : pl (0 - sAhead f at_) n = lo at *
    generalize hhi : pl (min lg 2147483647 - sAhead f at_) n = hi at *
    have hq : rQ lo hi n = hi - lo := by unfold rQ; omega
    have hbs : rBs l lo hi n = cutBytes at_ f lg l := by unfold rBs cutBytes; rw [hq, hlen, hlo, hhi]
    have hat : rAt at_ f lo hi n = cutFrom at_ f lg l := by
      unfold rAt cutFrom
      rw [hlen, hlo, hhi]
      by_cases hx : lo = hi
      · rw [if_pos hx, if_pos (by omega)]
      · rw [if_neg hx, if_neg (by omega)]
    have hcl : (cutBytes at_ f lg l).length = hi - lo := by unfold cutBytes; rw [hlen, hlo, hhi, List.length_take, List.length_drop]; omega
    rw [hq, hbs] at ho
    refine ⟨A', c', ?_, ?_, ?_, hb⟩
    · rw [he, hat, hq, hcl]
    · rw [hcl]; exact ho.cap
    · rw [hcl]; exact ho.rd (cutBytes_byte h.byte)

end Go.Proofs.Ytonbgkdobfefmaa
