/-
  culvertlaw05's awake: what the document's examples say.
-/
import Derived.Test.YtikfklbgncdbnaaOptSacks
import Derived.Test.YtikfklbgncdbnaaOptsPut
import Derived.Test.YtikfklbgncdbnaaOptWith
import Derived.Test.YtikfklbgncdbnaaOptSame
namespace Go.Proofs.Ytikfklbgncdbnaa
set_option maxRecDepth 10000
open Go.RowKit

theorem parse_w1 : parseO [2, 4, 5, 180, 1, 1, 4, 2] = ([(2, [5, 180]), (4, [])], 0) := by decide +kernel
theorem parse_w2 : parseO [2, 4, 5] = ([], 4) := by decide +kernel
theorem parse_w3 : parseO [0, 2] = ([], 5) := by decide +kernel
theorem parse_w4 : parseO [5, 10, 0, 0, 0, 1, 0, 0, 0, 5] = ([(5, [0, 0, 0, 1, 0, 0, 0, 5])], 0) := by decide +kernel

/-- Parse of a constant: the answer by name. -/
def ParseTo (ls : List (Int × List Int)) (x : Int) (w : World) (e : Ending) (w' : World) : Prop :=
  ∃ A m c os, m = ls.length ∧ e = .returned (.tuple #[.slice A m c, .int .i64 x]) ∧ OwnO w' w.heap.size A m c os ∧ OwnL w' w.heap.size os ls ∧ Below w.heap.size w w'
theorem parse_to (A : Option Addr) (n c : Nat) (b : List Int) (ls : List (Int × List Int)) (x : Int) (w : World) (hp : parseO b = (ls, x)) (hn : n ≤ 140737488355328) (hr : Rd w A n b) :
    Calls Try.prog 10 #[.slice A n c] w (ParseTo ls x w) := by
  refine (parse_any A n c b w hn hr).mono ?_
  rintro e w' ⟨A1, m, c1, os, he, ho, hl, hb⟩
  rw [hp] at he hl
  exact ⟨A1, m, c1, os, by rw [← ho.rd.len, hl.reads.len], he, ho, hl, hb⟩

theorem awake_any (w : World) : Calls Try.prog 13 #[] w (Woke w) := by
  obtain ⟨z, hz⟩ : ∃ z, w.heap.size = z := ⟨_, rfl⟩
  go_enter Try.func13, Try.ntmps13
  go_wp2_with fail
  refine (parse_to _ 8 8 [2, 4, 5, 180, 1, 1, 4, 2] _ _ _ parse_w1 (by omega) (Rd.const_ _ _ hz [2, 4, 5, 180, 1, 1, 4, 2] _ _ (by decide))).mono ?_
  rintro e w1 ⟨A1, m1, c1, os1, rfl, rfl, ho1, hl1, hb1⟩
  have Ho1 := Lib.hid ho1.rd
  have Hl1 := Lib.hid hl1.reads
  have Hb1 := Lib.hid (((Below.refl w.heap.size w).alloc (Nat.le_refl _) _).trans (hb1.mono (by simp)))
  clear ho1 hl1 hb1
  go_wp2_with fail
  refine (mss_any A1 _ c1 os1 _ w1 (by simp) Ho1.out Hl1.out).mono ?_
  rintro e w2 ⟨rfl, hb2⟩
  have Ho2 := Lib.hid (Ho1.out.below hb2)
  have Hl2 := Lib.hid (Hl1.out.below hb2)
  have Hb2 := Lib.hid (below_trans Hb1.out hb2)
  clear hb2 Ho1 Hl1 Hb1
  go_wp2_with fail
  refine (parse_to _ 3 3 [2, 4, 5] _ _ _ parse_w2 (by omega) (Rd.const_ _ _ rfl [2, 4, 5] _ _ (by decide))).mono ?_
  rintro e w3 ⟨A3, m3, c3, os3, rfl, rfl, -, -, hb3⟩
  have hb3' := ((Below.refl w2.heap.size w2).alloc (Nat.le_refl _) _).trans (hb3.mono (by simp))
  have Ho3 := Lib.hid (Ho2.out.below hb3')
  have Hl3 := Lib.hid (Hl2.out.below hb3')
  have Hb3 := Lib.hid (below_trans Hb2.out hb3')
  clear hb3 hb3' Ho2 Hl2 Hb2
  go_wp2_with fail
  refine (parse_to _ 2 2 [0, 2] _ _ _ parse_w3 (by omega) (Rd.const_ _ _ rfl [0, 2] _ _ (by decide))).mono ?_
  rintro e w4 ⟨A4, m4, c4, os4, rfl, rfl, -, -, hb4⟩
  have hb4' := ((Below.refl w3.heap.size w3).alloc (Nat.le_refl _) _).trans (hb4.mono (by simp))
  have Ho4 := Lib.hid (Ho3.out.below hb4')
  have Hl4 := Lib.hid (Hl3.out.below hb4')
  have Hb4 := Lib.hid (below_trans Hb3.out hb4')
  clear hb4 hb4' Ho3 Hl3 Hb3
  go_wp2_with fail
  refine (withscale_any 7 w4).mono ?_
  rintro e w5 ⟨A5, c5, rfl, ho5, hb5⟩
  have Hr5 := Lib.hid (ho5.rd (by decide))
  have Hc5 := Lib.hid (And.intro ho5.cap ho5.capMax)
  have Ho5 := Lib.hid (Ho4.out.below hb5)
  have Hl5 := Lib.hid (Hl4.out.below hb5)
  have Hb5 := Lib.hid (below_trans Hb4.out hb5)
  clear hb5 ho5 Ho4 Hl4 Hb4
  go_wp2_with fail
  have hba : Below w5.heap.size w5 (w5.alloc (.cells #[.int .u8 3, .slice A5 1 c5] 31)) := (Below.refl _ _).alloc (Nat.le_refl _) _
  refine (put_any _ 1 1 [⟨3, A5, 1, c5⟩] [(3, [scaleOf 7])] _ (by omega) (RdO.one w5 _ rfl _ _ 3 A5 1 c5) ⟨⟨rfl, (show (0 : Int) ≤ 3 ∧ (3 : Int) < 256 by decide), Hc5.out.1, Hc5.out.2, Hr5.out.below hba⟩, trivial⟩).mono ?_
  intro e w6 hput
  obtain ⟨A6, c6, rfl, ho6, hb6⟩ : ∃ A c, e = .returned (.tuple #[.slice A 4 c, .int .i64 0]) ∧ OwnB w6 (w5.alloc (.cells #[.int .u8 3, .slice A5 1 c5] 31)).heap.size A 4 c [3, 3, 7, 0] ∧ Below (w5.alloc (.cells #[.int .u8 3, .slice A5 1 c5] 31)).heap.size (w5.alloc (.cells #[.int .u8 3, .slice A5 1 c5] 31)) w6 := by
    unfold PutO at hput
    rw [if_neg (by decide +kernel), if_neg (by decide +kernel)] at hput
    exact hput
  have hb6' := below_trans hba hb6
  have Hr6 := Lib.hid (ho6.rd (by decide))
  have Ho6 := Lib.hid (Ho5.out.below hb6')
  have Hl6 := Lib.hid (Hl5.out.below hb6')
  have Hb6 := Lib.hid (below_trans Hb5.out hb6')
  clear hb6 hb6' hba hput ho6 Ho5 Hl5 Hb5 Hr5
  go_wp2_with fail
  refine (parse_to _ 10 10 [5, 10, 0, 0, 0, 1, 0, 0, 0, 5] _ _ _ parse_w4 (by omega) (Rd.const_ _ _ rfl [5, 10, 0, 0, 0, 1, 0, 0, 0, 5] _ _ (by decide))).mono ?_
  rintro e w7 ⟨A7, m7, c7, os7, rfl, rfl, ho7, hl7, hb7⟩
  have hb7' := ((Below.refl w6.heap.size w6).alloc (Nat.le_refl _) _).trans (hb7.mono (by simp))
  have Hr7 := Lib.hid (Hr6.out.below hb7')
  have Hx7 := Lib.hid ho7.rd
  have Hy7 := Lib.hid hl7.reads
  have Ho7 := Lib.hid (Ho6.out.below hb7')
  have Hl7 := Lib.hid (Hl6.out.below hb7')
  have Hb7 := Lib.hid (below_trans Hb6.out hb7')
  clear hb7 hb7' ho7 hl7 Ho6 Hl6 Hb6 Hr6
  go_wp2_with fail
  refine (sacks_any A7 _ c7 1 os7 _ w7 (by simp) Hx7.out Hy7.out (by decide +kernel)).mono ?_
  rintro e w8 ⟨A8, c8, rfl, ho8, hb8⟩
  have hs8 : sacksL [(5, [0, 0, 0, 1, 0, 0, 0, 5])] = [(1, 5)] := by decide +kernel
  rw [hs8] at ho8
  have Hk8 := Lib.hid (ho8.rd (by intro p hp; simp at hp; subst hp; exact ⟨by decide, by decide⟩))
  have Hr8 := Lib.hid (Hr7.out.below hb8)
  have Ho8 := Lib.hid (Ho7.out.below hb8)
  have Hl8 := Lib.hid (Hl7.out.below hb8)
  have Hb8 := Lib.hid (below_trans Hb7.out hb8)
  clear hb8 ho8 hs8 Hx7 Hy7 Ho7 Hl7 Hb7 Hr7
  have hm : (mssL [(2, [5, 180]), (4, [])]) = (1460, true) := by decide +kernel
  have hk : sackL [(2, [5, 180]), (4, [])] = true := by decide +kernel
  rw [hm]
  go_wp2_with fail
  refine (sackok_any A1 2 c1 os1 _ w8 (by omega) Ho8.out Hl8.out).mono ?_
  rw [hk]
  rintro e w9 ⟨rfl, hb9⟩
  have Hr9 := Lib.hid (Hr8.out.below hb9)
  have Hk9 := Lib.hid (Hk8.out.below hb9)
  have Hb9 := Lib.hid (below_trans Hb8.out hb9)
  clear hb9 Hr8 Hk8 Ho8 Hl8 Hb8
  go_wp2_with fail
  have hba9 : Below w9.heap.size w9 (w9.alloc (.cells #[.int .u8 3, .int .u8 3, .int .u8 7, .int .u8 0] 5)) := (Below.refl _ _).alloc (Nat.le_refl _) _
  refine (equal_any A6 _ 4 4 c6 4 [3, 3, 7, 0] [3, 3, 7, 0] _ (Hr9.out.below hba9) (Rd.const_ _ _ rfl [3, 3, 7, 0] _ _ (by decide))).mono ?_
  rintro e w10 ⟨rfl, rfl⟩
  obtain ⟨bx, px, hrunx, hbx, hkx, hdx, hux⟩ := (Hk9.out.below hba9).index_o (c := c8) (j := 0) (by decide)
  have hrunx0 : ∀ W : World, (Instr.indexAt 42 (.slice A8 1 c8) (.int .i64 0)).run Try.prog W = .ok (.pointer (some ⟨bx, px, none⟩)) W := hrunx
  have hkx0 : (w9.alloc (.cells #[.int .u8 3, .int .u8 3, .int .u8 7, .int .u8 0] 5)).cell? ⟨bx, px, none⟩ = some (.int .u32 1) := hkx
  have hdx0 : (w9.alloc (.cells #[.int .u8 3, .int .u8 3, .int .u8 7, .int .u8 0] 5)).cell? ⟨bx, px + 1, none⟩ = some (.int .u32 5) := hdx
  have Hb10 := Lib.hid (below_trans Hb9.out hba9)
  clear hrunx hkx hdx hux hba9 Hr9 Hk9 Hb9
  go_wp2_with fail
  go_ret
  exact ⟨rfl, Hb10.out⟩
end Go.Proofs.Ytikfklbgncdbnaa
