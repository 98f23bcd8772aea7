/-
  The chapter's rows (culvertlaw04's wakes): true.
-/
import Derived.Test.YtechknoagcjoeaaIpPut
import Derived.Test.YtechknoagcjoeaaIpRead
namespace Go.Proofs.Ytechknoagcjoeaa
open Go.RowKit

/-- The chapter's packet. -/
def rowL : List Int := [69, 0, 0, 22, 0, 0, 0, 0, 64, 17, 102, 213, 10, 0, 0, 1, 10, 0, 0, 2, 104, 105]
theorem rowL_is : packetL 0 0 false 64 17 167772161 167772162 [] [104, 105] = rowL := by decide +kernel
theorem row_a : strOfNums (rowL.take 10) = { data := #[69, 0, 0, 22, 0, 0, 0, 0, 64, 17] } := by rfl
theorem row_b : strOfNums (rowL.drop 12) = { data := #[10, 0, 0, 1, 10, 0, 0, 2, 104, 105] } := by rfl
theorem row_bytes : Bytes rowL := by unfold Bytes rowL; decide
theorem row_right : (sumL [rowL.take 20].flatten == 65535) = true := by decide +kernel
theorem row_short : errIp (rowL.take 21) = 4 := by decide +kernel
theorem row_long : errIp ([] ++ rowL ++ [0]) = 5 := by decide +kernel
theorem row_spoilt : errIp (rowL.set 0 85) = 5 := by decide +kernel

def IpWoke (w : World) (e : Ending) (w' : World) : Prop := e = .returned (.bool true) ∧ Below w.heap.size w w'
set_option maxHeartbeats 2000000 in
theorem ip_wakes (w : World) : Calls Try.prog 7 #[] w (IpWoke w) := by
  have kc := Go.Joins.run_convert_bytes_const_at (P := Try.prog) (w.alloc (.cells #[.int .u8 0, .int .u16 0, .bool false, .int .u8 64, .int .u8 17, .int .u32 167772161, .int .u32 167772162, .slice none 0 0] 26)) 24 5 #[.int .u8 104, .int .u8 105] 2 2 (w.heap.size + 1) (by simp) Try.underlying24 Try.underlying5
  go_enter Try.func7, Try.ntmps7
  go_wp2_with fail
  clear kc
  have hb0 := ((Below.refl w.heap.size w).alloc (Nat.le_refl _) (.cells #[.int .u8 0, .int .u16 0, .bool false, .int .u8 64, .int .u8 17, .int .u32 167772161, .int .u32 167772162, .slice none 0 0] 26)).alloc (by simp) (.cells #[.int .u8 104, .int .u8 105] 5 (2, 3))
  have hrd := Rd.const_ (w.alloc (.cells #[.int .u8 0, .int .u16 0, .bool false, .int .u8 64, .int .u8 17, .int .u32 167772161, .int .u32 167772162, .slice none 0 0] 26)) (w.heap.size + 1) (by simp) [104, 105] 5 (2, 3) (by decide)
  refine (put_ok 0 0 64 17 167772161 167772162 false none _ 0 0 2 2 [] [104, 105] _ (by omega) (by omega) (by omega) (by omega) (by omega) (by omega) (by decide) (by omega) ⟨by omega, by simp [maxLen]⟩ ⟨by omega, by simp [maxLen]⟩ (by omega) (Rd.nil _ _) hrd).mono ?_
  rw [rowL_is]
  rintro e w1 ⟨A1, c, rfl, hc, hcm, hown, hb⟩
  have hB := hb0.trans (hb.mono (by simp <;> omega))
  obtain ⟨g, rfl, hgB, hgl⟩ := hown.addr (by omega)
  have hgw : w.heap.size ≤ g := by simp at hgB; omega
  have hrd := hown.rdB row_bytes
  obtain ⟨L, eL⟩ : ∃ L, L = rowL := ⟨_, rfl⟩
  rw [← eL] at hown hrd
  have EL := Lib.hid eL
  clear eL
  have HB := Lib.hid hB
  have HO := Lib.hid (hown.mono (B' := w.heap.size) (by simp; omega))
  have HR := Lib.hid hrd
  have k1 := conv_rd (hrd.take (k := 10) (by omega)) c
  have k2 := conv_rd (hrd.drop_ rfl (k := 12) (m := 10) rfl) (c - 12)
  rw [EL.out, row_a] at k1
  rw [EL.out, row_b] at k2
  simp only [Nat.zero_add] at k2
  clear hb0 hb hB hown hrd hgB
  go_wp2_with fail
  clear k1 k2
  (with_reducible refine (right_told _ 1 1 [L.take 20] _ true (by omega) (RdL.one _ _ rfl _ _ _ 20 c _ (HR.out.take (by omega)) (by omega) hcm) (by rw [EL.out]; exact row_right)).mono ?_)
  rintro e w2 ⟨rfl, hb⟩
  have hbb := on_alloc hb
  have HR := Lib.hid (HR.out.below hbb)
  have HO := Lib.hid (HO.out.on hbb)
  have HB := Lib.hid (below_trans HB.out hbb)
  clear hb hbb
  go_wp2_with fail
  (with_reducible refine (parse_bad _ 21 c (L.take 21) 4 _ ⟨by omega, hcm⟩ (by omega) (HR.out.take (by omega)) (by rw [EL.out]; exact row_short) (by decide)).mono ?_)
  rintro e w3 ⟨rfl, hb⟩
  have hbb := below_trans hb (Below.alloc (Below.refl w3.heap.size w3) (Nat.le_refl _) (.cells #[.int .u8 0, .int .u16 0, .bool false, .int .u8 0, .int .u8 0, .int .u32 0, .int .u32 0, .slice none 0 0] 26))
  have HR := Lib.hid (HR.out.below hbb)
  have HO := Lib.hid (HO.out.on hbb)
  have HB := Lib.hid (below_trans HB.out hbb)
  clear hb hbb
  have hc0 : (0 : Nat) ≤ 0 := Nat.le_refl _
  go_wp2_with (first | (refine wpList_app rfl (.const (.slice none 0 0)) (.tmp 55) rfl (w3.alloc (.cells #[.int .u8 0, .int .u16 0, .bool false, .int .u8 0, .int .u8 0, .int .u32 0, .int .u32 0, .slice none 0 0] 26)).heap.size none (some ⟨g, 0, none⟩) 0 0 22 c [] L rfl rfl (OwnB.nil _ _) HR.out (by omega) (Nat.le_refl _) ?_; intro A4 c4 w4 hown4 hgr4 hb4 _) | (refine wpList_app rfl (.tmp 56) (.tmp 57) rfl (w3.alloc (.cells #[.int .u8 0, .int .u16 0, .bool false, .int .u8 0, .int .u8 0, .int .u32 0, .int .u32 0, .slice none 0 0] 26)).heap.size A4 _ 22 c4 1 1 ([] ++ L) [0] rfl rfl (hown4.alloc _) (Rd.const_ w4 w4.heap.size rfl [0] _ _ (by decide)) (by omega) (Nat.le_trans hb4.size (by simp)) ?_; intro A5 c5 w5 hown5 hgr5 hb5 _))
  have hbb := Below.trans (Below.alloc hb4 hb4.size _) hb5
  have HR := Lib.hid (HR.out.below hbb)
  have HO := Lib.hid (HO.out.on hbb)
  have HB := Lib.hid (below_trans HB.out hbb)
  have hr5 := hown5.rdB (by rw [EL.out]; unfold Bytes rowL; decide)
  have hcc5 := hown5.cap
  have hcm5 := hown5.capMax
  have Hr5 := Lib.hid hr5
  clear hbb hb4 hb5 hown4 hgr4 hown5 hgr5 hr5
  (with_reducible refine (parse_bad A5 23 c5 _ 5 _ ⟨hcc5, hcm5⟩ (by omega) Hr5.out (by rw [EL.out]; exact row_long) (by decide)).mono ?_)
  rintro e w6 ⟨rfl, hb⟩
  have hbb := below_trans hb (Below.alloc (Below.refl w6.heap.size w6) (Nat.le_refl _) (.cells #[.int .u8 0, .int .u16 0, .bool false, .int .u8 0, .int .u8 0, .int .u32 0, .int .u32 0, .slice none 0 0] 26))
  have HR := Lib.hid (HR.out.below hbb)
  have HO := Lib.hid (HO.out.on hbb)
  have HB := Lib.hid (below_trans HB.out hbb)
  have hx0 := HO.out.cell 0 (by omega)
  have hf0 : (w6.alloc (.cells #[.int .u8 0, .int .u16 0, .bool false, .int .u8 0, .int .u8 0, .int .u32 0, .int .u32 0, .slice none 0 0] 26)).frozen? ⟨g, 0, none⟩ = false := World.ownsRow.frozenAt HO.out 0
  clear hb hbb
  go_wp2_with fail
  have HO := Lib.hid (HO.out.set_ 0 85)
  have HB := Lib.hid (HB.out.setCell (p := ⟨g, 0, none⟩) hgw (.int .u8 85))
  have hr7 := HO.out.rdB (by rw [EL.out]; unfold Bytes rowL; decide)
  have Hr7 := Lib.hid hr7
  clear hr7 hx0 hf0
  (with_reducible refine (parse_bad _ 22 c (L.set 0 85) 5 _ ⟨by omega, hcm⟩ (by omega) Hr7.out (by rw [EL.out]; exact row_spoilt) (by decide)).mono ?_)
  rintro e w7 ⟨rfl, hb⟩
  have hbb := below_trans hb (Below.alloc (Below.refl w7.heap.size w7) (Nat.le_refl _) (.cells #[.int .u8 0, .int .u16 0, .bool false, .int .u8 0, .int .u8 0, .int .u32 0, .int .u32 0, .slice none 0 0] 26))
  have HB := Lib.hid (below_trans HB.out hbb)
  clear hb hbb
  go_wp2_with fail
  go_ret
  exact ⟨rfl, HB.out⟩

end Go.Proofs.Ytechknoagcjoeaa
