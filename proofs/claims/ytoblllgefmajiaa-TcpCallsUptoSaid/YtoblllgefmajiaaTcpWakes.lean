/-
  culvertlaw06's wakes: what the document's examples say.
-/
import Derived.Test.YtoblllgefmajiaaTcpRead
namespace Go.Proofs.Ytoblllgefmajiaa
set_option maxRecDepth 10000
open Go.RowKit

theorem put6_told (src dst : Int) (s : Seg) (AO : Option Addr) (nO cO : Nat) (oss : List OptV) (AD : Option Addr) (nD cD : Nat) (w : World) (L : List Int) (m : Nat) (hn : nO ≤ 140737488355328) (hd : nD ≤ 140737488355328) (h : SegRd w s AO nO cO oss AD nD cD) (h0 : errS s = 0) (hm : lenB s = m) (hL : segB src dst s = L) :
    Calls Try.prog 15 #[.int .u32 src, .int .u32 dst, .agg #[.int .u16 s.sp, .int .u16 s.dp, .int .u32 s.sq, .int .u32 s.ak, .int .u8 s.fl, .int .u16 s.wn, .int .u16 s.ug, .slice AO nO cO, .slice AD nD cD]] w (RowOk m L w) := by
  subst hm; subst hL; exact put6_ok src dst s AO nO cO oss AD nD cD w hn hd h h0
theorem put6_err (src dst : Int) (s : Seg) (AO : Option Addr) (nO cO : Nat) (oss : List OptV) (AD : Option Addr) (nD cD : Nat) (w : World) (x : Int) (hn : nO ≤ 140737488355328) (hd : nD ≤ 140737488355328) (h : SegRd w s AO nO cO oss AD nD cD) (hx : errS s = x) (h0 : x ≠ 0) :
    Calls Try.prog 15 #[.int .u32 src, .int .u32 dst, .agg #[.int .u16 s.sp, .int .u16 s.dp, .int .u32 s.sq, .int .u32 s.ak, .int .u8 s.fl, .int .u16 s.wn, .int .u16 s.ug, .slice AO nO cO, .slice AD nD cD]] w (PutErrIs x w) := by
  subst hx; exact put6_bad src dst s AO nO cO oss AD nD cD w hn hd h h0

def wakeS : Seg := ⟨1, 2, 3, 0, 2, 0, 0, [(2, [5, 180])], []⟩
theorem wake_list : ∃ L : List Int, segB 4 5 wakeS = L ∧ L.take 16 = [0, 1, 0, 2, 0, 0, 0, 3, 0, 0, 0, 0, 96, 2, 0, 0] := ⟨_, rfl, by decide +kernel⟩
theorem wake_str : strOfNums [0, 1, 0, 2, 0, 0, 0, 3, 0, 0, 0, 0, 96, 2, 0, 0] = { data := #[0, 1, 0, 2, 0, 0, 0, 3, 0, 0, 0, 0, 96, 2, 0, 0] } := by decide +kernel
theorem segB_bytes {src dst : Int} {s : Seg} (h : SegNum s) (h0 : errS s = 0) (ho : ∀ l ∈ s.os, (0 ≤ l.1 ∧ l.1 < 256) ∧ ∀ x ∈ l.2, 0 ≤ x ∧ x < 256) (hd : ∀ x ∈ s.d, 0 ≤ x ∧ x < 256) : ∀ x ∈ segB src dst s, 0 ≤ x ∧ x < 256 := by
  have hm := (errS_zero s).1 h0
  unfold mayT at hm
  simp at hm
  have hl := padTo4_len (bytesO s.os)
  have hyl : ∀ l ∈ s.os, l.2.length ≤ 38 := fun l hl => (badB_false (by have := hm.1.1; simpa using this l.1 l.2 hl)).2
  intro x hx
  unfold segB at hx
  rcases List.mem_append.1 hx with h1 | h1
  · rcases List.mem_append.1 h1 with h2 | h2
    · refine segHd_bytes s _ _ h.fl ?_ x h2
      unfold offS optB
      omega
    · exact padTo4_bytes_ (bytesO_bytes ho hyl) x h2
  · exact hd x h1

theorem wakes_any (w : World) : Calls Try.prog 25 #[] w (Woke w) := by
  obtain ⟨z, hz⟩ : ∃ z, w.heap.size = z := ⟨_, rfl⟩
  have Hz := Lib.hid hz
  have hs0 := wake_str
  obtain ⟨L, hL, hLt⟩ := wake_list
  have HL := Lib.hid hL
  have HLt := Lib.hid hLt
  clear hL hLt
  go_enter Try.func25, Try.ntmps25
  go_wp2_with fail
  obtain ⟨w1, hw1⟩ : ∃ w1, w1 = (w.alloc (.cells #[.int .u8 5, .int .u8 180] 5)).alloc (.cells #[.int .u8 2, .slice (some ⟨z, 0, none⟩) 2 2] 39) := ⟨_, rfl⟩
  rw [← hw1]
  have hb1 : Below w.heap.size w w1 := by rw [hw1]; exact ((Below.refl _ _).alloc (Nat.le_refl _) _).alloc (by simp) _
  have hsz1 : w1.heap.size = z + 2 := by rw [hw1]; simp [Hz.out]
  have hro : RdO w1 (some ⟨z + 1, 0, none⟩) 1 [⟨2, some ⟨z, 0, none⟩, 2, 2⟩] := by
    rw [hw1]; exact RdO.one (w.alloc (.cells #[.int .u8 5, .int .u8 180] 5)) (z + 1) (by simp [Hz.out]) _ _ 2 (some ⟨z, 0, none⟩) 2 2
  have hrd : Rd w1 (some ⟨z, 0, none⟩) 2 [5, 180] := by
    rw [hw1]
    exact (Rd.const_ w z Hz.out [5, 180] 5 (0, 0) (by decide)).below ((Below.refl _ _).alloc (Nat.le_refl _) _)
  have hsg : SegRd w1 wakeS (some ⟨z + 1, 0, none⟩) 1 1 [⟨2, some ⟨z, 0, none⟩, 2, 2⟩] none 0 0 :=
    ⟨⟨by decide, by decide, by decide, by decide, by decide, by decide, by decide⟩, ⟨by omega, by simp [maxLen]⟩, ⟨by omega, by simp [maxLen]⟩, hro, ⟨⟨rfl, (show (0 : Int) ≤ 2 ∧ (2 : Int) < 256 by decide), (show (2 : Nat) ≤ 2 by omega), (show (2 : Nat) ≤ maxLen by simp [maxLen]), hrd⟩, trivial⟩, Rd.nil _ _⟩
  have Hsg := Lib.hid hsg
  have Hb1 := Lib.hid hb1
  have hba : Below w1.heap.size w1 (w1.alloc (.cells #[.int .u16 1, .int .u16 2, .int .u32 3, .int .u32 0, .int .u8 2, .int .u16 0, .int .u16 0, .slice (some ⟨z + 1, 0, none⟩) 1 1, .slice none 0 0] 27)) := (Below.refl _ _).alloc (Nat.le_refl _) _
  have hk := heap_alloc_new w1 (.cells #[.int .u16 1, .int .u16 2, .int .u32 3, .int .u32 0, .int .u8 2, .int .u16 0, .int .u16 0, .slice (some ⟨z + 1, 0, none⟩) 1 1, .slice none 0 0] 27)
  rw [hsz1] at hk
  have Hk := Lib.hid hk
  have Hba := Lib.hid hba
  have hbb := Lib.hid (segB_bytes (src := 4) (dst := 5) hsg.num (by decide +kernel) hsg.os.byte hsg.d.byte)
  rw [HL.out] at hbb
  clear hw1 hb1 hsz1 hro hrd hsg hba hk hz
  refine (put6_told 4 5 wakeS (some ⟨z + 1, 0, none⟩) 1 1 [⟨2, some ⟨z, 0, none⟩, 2, 2⟩] none 0 0 _ L 24 (by omega) (by omega) (Hsg.out.below Hba.out) (by decide +kernel) (by decide +kernel) HL.out).mono ?_
  rintro e w2 ⟨A2, c2, rfl, k2, m2, ho2, hb2⟩
  obtain ⟨g2, rfl, _, _⟩ := ho2.addr (by omega)
  have Hr := Lib.hid (ho2.rd hbb.out)
  have Hb2 := Lib.hid (below_trans Hb1.out (below_trans Hba.out hb2))
  have hk2 := blk_on Hk.out hb2
  obtain ⟨c0, c1, c3, c4, c5, c6, c7, c8, c9⟩ := seg_cells hk2
  have hcv := conv_rd (Hr.out.take (k := 16) (by omega)) c2
  rw [HLt.out] at hcv
  have k2i : (24 : Int) ≤ (c2 : Int) := by omega
  have k2j : (16 : Int) ≤ (c2 : Int) := by omega
  clear ho2 hb2 hk2
  go_wp2_with fail
  refine (length_any wakeS (some ⟨z + 1, 0, none⟩) 1 1 none 0 0 _ (by decide)).mono ?_
  rintro e w3 ⟨rfl, hb3⟩
  rw [show lenS wakeS.fl 0 = 1 by decide +kernel]
  have Hb3 := Lib.hid (below_trans Hb2.out hb3)
  clear hb3
  go_wp2_with fail
  go_ret
  exact ⟨rfl, Hb3.out⟩
end Go.Proofs.Ytoblllgefmajiaa
