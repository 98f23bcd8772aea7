/-
  What the laws of icmp have in common: Parse's error alone; culvertlaw08's wakes; a message that comes in, opened.
-/
import Derived.Test.YtcdflpfgjodeaaaIcmpParse
import Derived.Test.YtcdflpfgjodeaaaIcmpPut
import Derived.Test.YtcdflpfgjodeaaaMade
import Derived.Lib.SmallJoins
namespace Go.Proofs.Ytcdflpfgjodeaaa
set_option maxRecDepth 10000
open Go.Joins Go.ChangeShapes Go.WideShapes Go.ChangeAt Go.RowKit Go.Deep
set_option linter.unusedSimpArgs false
set_option linter.unusedVariables false

/-- Parse, of what is wrong alone. -/
def ErrMsgIs (x : Int) (w : World) (e : Ending) (w' : World) : Prop :=
  ∃ (t c r : Int) (A : Option Addr) (n m : Nat), e = .returned (.tuple #[.agg #[.int .u8 t, .int .u8 c, .int .u32 r, .slice A n m], .int .i64 x]) ∧ Below w.heap.size w w'
theorem parse8_x (A : Option Addr) (n c : Nat) (b : List Int) (x : Int) (w : World) (hc : n ≤ c ∧ c ≤ maxLen) (hA : Rd w A n b) (hx : errM b = x) :
    Calls Try.prog 9 #[.slice A n c] w (ErrMsgIs x w) := by
  by_cases h0 : x = 0
  · subst h0
    exact (parse8_told A n c _ b _ _ _ _ w hc hA hx rfl rfl).mono fun e w' ⟨AD, cD, he, _, _, _, hb⟩ => ⟨_, _, _, _, _, _, he, hb⟩
  · exact (parse8_err A n c b x w hc hA hx h0).mono fun e w' ⟨he, hb⟩ => ⟨_, _, _, _, _, _, he, hb⟩

theorem wk1 : msgB ⟨8, 0, 65538, []⟩ = [8, 0, 247, 252, 0, 1, 0, 2] := by decide +kernel
theorem wk2 : errM (List.replicate 7 0) = 4 := by decide +kernel
theorem wk3 : errM (List.replicate 8 0) = 20 := by decide +kernel
theorem wk4 : (strOfNums [8, 0]).toList = [8, 0] := by decide +kernel
theorem wk5 : (strOfNums [0, 1, 0, 2]).toList = [0, 1, 0, 2] := by decide +kernel
set_option maxHeartbeats 1000000 in
theorem wakes_any (w : World) : Calls Try.prog 21 #[] w (Woke w) := by
  obtain ⟨z, hz⟩ : ∃ z, w.heap.size = z := ⟨_, rfl⟩
  obtain ⟨w0, e0⟩ : ∃ w0, w.alloc (.cells #[.int .u8 8, .int .u8 0, .int .u32 65538, .slice none 0 0] 25) = w0 := ⟨_, rfl⟩
  have E0 := Lib.hid e0
  have K0 := Lib.hid (show w0.heap[z]? = some (.cells #[.int .u8 8, .int .u8 0, .int .u32 65538, .slice none 0 0] 25 (0, 0)) by rw [← e0, ← hz]; exact heap_alloc_new w _)
  have Hb := Lib.hid (show Below w.heap.size w w0 by rw [← e0]; exact (Below.refl _ _).alloc (Nat.le_refl _) _)
  have hmk7 : ∀ w, (Instr.makeSlice 23 (.int .i64 7) (.int .i64 7)).run Try.prog w = .ok (.slice (some ⟨w.heap.size, 0, none⟩) 7 7) (w.alloc (.cells (madeCells (Value.int .u8 0).cells 7) 5)) := fun w => made_run 7 (by omega) w
  have hmk8 : ∀ w, (Instr.makeSlice 23 (.int .i64 8) (.int .i64 8)).run Try.prog w = .ok (.slice (some ⟨w.heap.size, 0, none⟩) 8 8) (w.alloc (.cells (madeCells (Value.int .u8 0).cells 8) 5)) := fun w => made_run 8 (by omega) w
  clear e0
  go_enter Try.func21, Try.ntmps21
  go_upto_region 2 with (fail)
  rw [E0.out]
  obtain ⟨c0, c1, c2, c3⟩ := cells4 K0.out
  go_wp2_with fail
  refine (put8_any ⟨8, 0, 65538, []⟩ none 0 0 _ [8, 0, 247, 252, 0, 1, 0, 2] 8 0 ⟨by decide, by decide, by decide⟩ (by simp [maxLen]) (Rd.nil _ _) rfl (by rw [← wk1]; rfl) rfl).mono ?_
  rintro e w1 ⟨A1, k1, rfl, hk1, hm1, ho1, hb1⟩
  obtain ⟨g1, rfl, hg1, _⟩ := ho1.addr (by omega)
  have K1 := Lib.hid (blk_on K0.out hb1)
  have Hb := Lib.hid (below_trans Hb.out hb1)
  have Ho := Lib.hid (ho1.rd (by decide))
  clear c0 c1 c2 c3 hb1 ho1 hg1
  obtain ⟨c0, c1, c2, c3⟩ := cells4 K1.out
  go_wp2_with fail
  refine (echo8_any 8 0 65538 none 0 0 _ (by decide)).mono ?_
  rintro e w2 ⟨h2, hb2⟩
  rw [if_pos (by decide)] at h2
  subst h2
  have K2 := Lib.hid (blk_on K1.out hb2)
  have Hb := Lib.hid (below_trans Hb.out hb2)
  have Ho := Lib.hid (Ho.out.below hb2)
  clear c0 c1 c2 c3 hb2
  obtain ⟨c0, c1, c2, c3⟩ := cells4 K2.out
  go_wp2_with fail
  refine (parse8_err _ 7 7 _ 4 _ (by simp [maxLen]) (made_lit w2 _ rfl 7) wk2 (by decide)).mono ?_
  rintro e w3 ⟨rfl, hb3⟩
  have hb3 := (on_alloc hb3).alloc (on_alloc hb3).size (.cells #[.int .u8 0, .int .u8 0, .int .u32 0, .slice none 0 0] 25)
  have K3 := Lib.hid (blk_on K2.out hb3)
  have Hb := Lib.hid (below_trans Hb.out hb3)
  have Ho := Lib.hid (Ho.out.below hb3)
  clear c0 c1 c2 c3 hb3
  obtain ⟨c0, c1, c2, c3⟩ := cells4 K3.out
  go_wp2_with fail
  obtain ⟨v3, e3⟩ : ∃ v, w3.alloc (.cells #[.int .u8 0, .int .u8 0, .int .u32 0, .slice none 0 0] 25) = v := ⟨_, rfl⟩
  rw [e3] at Hb Ho K3 c0 c1 c2 c3
  try rw [e3]
  have hsz3 := Lib.hid (show w3.heap.size + 1 = v3.heap.size by rw [← e3]; simp)
  clear e3
  rw [hsz3.out]
  refine (parse8_err _ 8 8 _ 20 _ (by simp [maxLen]) (made_lit v3 _ rfl 8) wk3 (by decide)).mono ?_
  rintro e w4 ⟨rfl, hb4⟩
  have hb4 := (on_alloc hb4).alloc (on_alloc hb4).size (.cells #[.int .u8 0, .int .u8 0, .int .u32 0, .slice none 0 0] 25)
  have K4 := Lib.hid (blk_on K3.out hb4)
  have Hb := Lib.hid (below_trans Hb.out hb4)
  have Ho := Lib.hid (Ho.out.below hb4)
  clear c0 c1 c2 c3 hb4
  go_upto_region 6 with (fail)
  obtain ⟨v4, e4⟩ : ∃ v, w4.alloc (.cells #[.int .u8 0, .int .u8 0, .int .u32 0, .slice none 0 0] 25) = v := ⟨_, rfl⟩
  try rw [e4]
  rw [e4] at Hb Ho K4
  clear e4
  obtain ⟨c0, c1, c2, c3⟩ := cells4 K4.out
  have k1i : (2 : Int) ≤ (k1 : Int) := by omega
  have hcv1 := conv_rd (Ho.out.take (k := 2) (by omega)) k1
  obtain ⟨A9, hs9, hr9⟩ := Ho.out.restM (c := k1) 4 4 (by omega) (by omega) hk1 hm1 rfl
  have hcv2 := conv_rd hr9 (k1 - 4)
  rw [show List.take 2 [8, 0, 247, 252, 0, 1, 0, 2] = ([8, 0] : List Int) from rfl] at hcv1
  rw [show List.drop 4 [8, 0, 247, 252, 0, 1, 0, 2] = ([0, 1, 0, 2] : List Int) from rfl] at hcv2
  simp only [Nat.reduceSub] at hcv2 hs9
  have w4b := wk4
  have w5b := wk5
  clear hr9
  go_wp2_with fail
  refine (sort8_any 8 0 65538 none 0 0 1 _ (by decide)).mono ?_
  rintro e w5 ⟨rfl, hb5⟩
  have Hb := Lib.hid (below_trans Hb.out hb5)
  clear hb5
  go_wp2_with fail
  refine (sort8_any 3 0 0 none 0 0 3 _ (by decide)).mono ?_
  rintro e w6 ⟨rfl, hb6⟩
  have Hb := Lib.hid (below_trans Hb.out hb6)
  clear hb6
  go_wp2_with fail
  refine (sort8_any 13 0 0 none 0 0 0 _ (by decide)).mono ?_
  rintro e w7 ⟨rfl, hb7⟩
  have Hb := Lib.hid (below_trans Hb.out hb7)
  clear hb7
  go_wp2_with fail
  refine (sort8_any 8 1 0 none 0 0 0 _ (by decide)).mono ?_
  rintro e w8 ⟨rfl, hb8⟩
  have Hb := Lib.hid (below_trans Hb.out hb8)
  clear hb8
  go_wp2_with fail
  go_ret
  exact ⟨rfl, Hb.out⟩
end Go.Proofs.Ytcdflpfgjodeaaa
