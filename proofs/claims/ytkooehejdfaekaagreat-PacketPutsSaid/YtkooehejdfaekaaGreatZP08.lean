/-
  Texts laid together: SegPut, HeldLast, SegParse, SegGood.
-/
import Derived.Test.YtkooehejdfaekaaGreatZP07
import Derived.Test.YtkooehejdfaekaaGreatRows
import Derived.OrdersHeld
import Derived.Deep.RegionHeld
import Derived.Test.YtkooehejdfaekaaGreatZP06

/-
  The contract of culvertref06's Put (and May).
-/
namespace Go.Proofs.YtkooehejdfaekaaGreat
set_option maxRecDepth 10000
open Go.RowKit

def b2 (n : Int) : List Int := [n / 256 % 256, n % 256]
def b4 (n : Int) : List Int := [n / 16777216 % 256, n / 65536 % 256, n / 256 % 256, n % 256]
def segHd (s : Seg) (off f : Int) : List Int := b2 s.sp ++ b2 s.dp ++ b4 s.sq ++ b4 s.ak ++ [off, s.fl] ++ b2 s.wn ++ b2 f ++ b2 s.ug
def optB (s : Seg) : List Int := padTo4 (bytesO s.os)
def offS (s : Seg) : Int := (20 + ((optB s).length : Int)) / 4 * 16
def lenB (s : Seg) : Nat := 20 + (optB s).length + s.d.length
def fieldS (src dst : Int) (s : Seg) : Int := 65535 - sumL (pseudoL src dst 6 (lenB s) ++ (segHd s (offS s) 0 ++ optB s ++ s.d))
def segB (src dst : Int) (s : Seg) : List Int := segHd s (offS s) (fieldS src dst s) ++ optB s ++ s.d
/-- What Put tells of a segment. -/
def SegPutIs (src dst : Int) (s : Seg) (w : World) (e : Ending) (w' : World) : Prop :=
  if s.os.any badB = true then e = .returned (.tuple #[.slice Option.none 0 0, .int .i64 1]) ∧ Below w.heap.size w w'
  else if 40 < (bytesO s.os).length then e = .returned (.tuple #[.slice Option.none 0 0, .int .i64 3]) ∧ Below w.heap.size w w'
  else if 1480 < lenB s then e = .returned (.tuple #[.slice Option.none 0 0, .int .i64 3]) ∧ Below w.heap.size w w'
  else ∃ A c, e = .returned (.tuple #[.slice A (lenB s) c, .int .i64 0]) ∧ OwnB w' w.heap.size A (lenB s) c (segB src dst s) ∧ Below w.heap.size w w'

theorem seg_cells {W : World} {z : Nat} {v0 v1 v2 v3 v4 v5 v6 v7 v8 : Value} (h : W.heap[z]? = some (.cells #[v0, v1, v2, v3, v4, v5, v6, v7, v8] 29 (0, 0))) :
    W.cell? ⟨z, 0, none⟩ = some v0 ∧ W.cell? ⟨z, 1, none⟩ = some v1 ∧ W.cell? ⟨z, 2, none⟩ = some v2 ∧ W.cell? ⟨z, 3, none⟩ = some v3 ∧ W.cell? ⟨z, 4, none⟩ = some v4 ∧ W.cell? ⟨z, 5, none⟩ = some v5 ∧ W.cell? ⟨z, 6, none⟩ = some v6 ∧ W.cell? ⟨z, 7, none⟩ = some v7 ∧ W.cell? ⟨z, 8, none⟩ = some v8 :=
  ⟨blk_cell h 0, blk_cell h 1, blk_cell h 2, blk_cell h 3, blk_cell h 4, blk_cell h 5, blk_cell h 6, blk_cell h 7, blk_cell h 8⟩
theorem made_own (w : World) (g m : Nat) (hg : w.heap.size = g) (hm : m ≤ 2147483647) : OwnB (w.alloc (.cells (madeCells #[Value.int .u8 0] m) 5)) g (some ⟨g, 0, none⟩) m m (List.replicate m 0) := by
  subst hg
  refine ⟨by simp, .inr ⟨w.heap.size, m, _, rfl, Nat.le_refl _, heap_alloc_new w _, Nat.le_refl _, by unfold maxLen; omega, by rw [size_madeCells]; omega, ?_⟩⟩
  rw [toList_madeCells_one]
  simp

theorem padTo4_bytes_ {b : List Int} (h : ∀ x ∈ b, 0 ≤ x ∧ x < 256) : ∀ x ∈ padTo4 b, 0 ≤ x ∧ x < 256 := by
  intro x hx
  rcases List.mem_append.1 hx with h1 | h1
  · exact h x h1
  · rw [List.eq_of_mem_replicate h1]; omega
theorem segHd_bytes (s : Seg) (off f : Int) (hf : 0 ≤ s.fl ∧ s.fl < 256) (ho : 0 ≤ off ∧ off < 256) : ∀ x ∈ segHd s off f, 0 ≤ x ∧ x < 256 := by
  intro x hx
  simp [segHd, b2, b4] at hx
  omega
/-- A row that lies below g stays, where a row was made at g and written to. -/
theorem rd_step {w1 w0 q : World} {A : Option Addr} {n g : Nat} {l : List Int} (h : Rd w1 A n l) (eg : w1.heap.size = g) (hb : Below g w1 w0) (hB : But (fun k => k = g) w0 q) : Rd q A n l := by
  subst eg
  refine (h.below hb).but hB (fun b o e h0 hk => ?_)
  obtain ⟨b', o', e', hlt, _⟩ := h.at_ h0
  rw [e] at e'; injection e' with e'; injection e' with e' _
  omega
theorem rd_low {w w' : World} {A : Option Addr} {n g : Nat} {l : List Int} (h : Rd w A n l) (hg : ∀ b o, A = some ⟨b, o, none⟩ → 0 < n → b < g) (hb : Below g w w') : Rd w' A n l :=
  ⟨h.len, h.byte, fun h0 => by
    obtain ⟨b, o, e, hlt, hc⟩ := h.at_ h0
    exact ⟨b, o, e, Nat.lt_of_lt_of_le hlt hb.size, fun i hi => by rw [hb.cell (p := ⟨b, o + i, none⟩) (hg b o e h0)]; exact hc i hi⟩⟩
set_option maxHeartbeats 2000000 in
theorem rput6_any (src dst : Int) (s : Seg) (AO : Option Addr) (nO cO : Nat) (oss : List OptV) (AD : Option Addr) (nD cD : Nat) (w : World) (hn : nO ≤ 2000000) (hd : nD ≤ 140737488355328) (h : SegRd w s AO nO cO oss AD nD cD) :
    Calls Tryz.prog 20 #[.int .u32 src, .int .u32 dst, .agg #[.int .u16 s.sp, .int .u16 s.dp, .int .u32 s.sq, .int .u32 s.ak, .int .u8 s.fl, .int .u16 s.wn, .int .u16 s.ug, .slice AO nO cO, .slice AD nD cD]] w (SegPutIs src dst s w) := by
  have hnum := h.num
  have hby := h.os.byte
  obtain ⟨sp, dp, sq, ak, fl, wn, ug, os, d⟩ := s
  simp only at hby ⊢
  have hba : Below w.heap.size w (w.alloc (.cells #[.int .u16 sp, .int .u16 dp, .int .u32 sq, .int .u32 ak, .int .u8 fl, .int .u16 wn, .int .u16 ug, .slice AO nO cO, .slice AD nD cD] 29)) := (Below.refl _ _).alloc (Nat.le_refl _) _
  have Hput := Lib.hid (rput_any AO nO cO oss os _ hn (h.below hba).o (h.below hba).os)
  have hblk := heap_alloc_new w (.cells #[.int .u16 sp, .int .u16 dp, .int .u32 sq, .int .u32 ak, .int .u8 fl, .int .u16 wn, .int .u16 ug, .slice AO nO cO, .slice AD nD cD] 29)
  obtain ⟨z, hz⟩ : ∃ z, w.heap.size = z := ⟨_, rfl⟩
  rw [hz] at hblk
  have Hblk := Lib.hid hblk
  have Hba := Lib.hid hba
  have Hd := Lib.hid (h.below hba).d
  have Hnum := Lib.hid hnum
  have Hdl := Lib.hid h.d.len
  simp only at Hdl
  have k20 : ∀ w, (Instr.makeSlice 24 (.int .i64 20) (.int .i64 20)).run Tryz.prog w = .ok (.slice (some ⟨w.heap.size, 0, none⟩) 20 20) (w.alloc (.cells (madeCells (Value.int .u8 0).cells 20) 5)) := fun w => made_run 20 (by omega) w
  clear h hba hblk hnum
  go_enter Tryz.func20, Tryz.ntmps20
  go_wp2_with fail
  refine Hput.out.mono ?_
  intro e w1 hp
  unfold PutO at hp
  by_cases hany : os.any badB = true
  · rw [if_pos hany] at hp
    obtain ⟨rfl, hb1⟩ := hp
    have Hb1 := Lib.hid (below_trans Hba.out hb1)
    have Hany := Lib.hid hany
    clear hany hb1
    go_wp2_with fail
    go_ret2
    unfold SegPutIs
    rw [if_pos Hany.out]
    exact ⟨rfl, Hb1.out⟩
  · rw [if_neg hany] at hp
    have Hany := Lib.hid hany
    by_cases hlong : 40 < (bytesO os).length
    · rw [if_pos hlong] at hp
      obtain ⟨rfl, hb1⟩ := hp
      have Hb1 := Lib.hid (below_trans Hba.out hb1)
      have Hlong := Lib.hid hlong
      clear hlong hb1 hany
      go_wp2_with fail
      go_ret2
      unfold SegPutIs
      rw [if_neg Hany.out, if_pos Hlong.out]
      exact ⟨rfl, Hb1.out⟩
    · rw [if_neg hlong] at hp
      have Hlong := Lib.hid hlong
      obtain ⟨Y, eY⟩ : ∃ Y, padTo4 (bytesO os) = Y := ⟨_, rfl⟩
      obtain ⟨YN, eYN⟩ : ∃ YN, Y.length = YN := ⟨_, rfl⟩
      have hpl := padTo4_len (bytesO os)
      rw [eY, eYN] at hpl
      rw [eY, eYN] at hp
      obtain ⟨A1, c1, rfl, ho1, hb1⟩ := hp
      have hYN : YN ≤ 40 ∧ YN % 4 = 0 := by omega
      have Hb1 := Lib.hid (below_trans Hba.out hb1)
      have hblk1 := blk_on Hblk.out hb1
      obtain ⟨c10, c11, c12, c13, c14, c15, c16, c17, c18⟩ := seg_cells hblk1
      have Hblk1 := Lib.hid hblk1
      have Ho1 := Lib.hid ho1
      have Hd1 := Lib.hid (Hd.out.below hb1)
      have EY := Lib.hid eY
      have EYN := Lib.hid eYN
      have hw1 : IntKind.i64.wrap (20 + (YN : Int)) = 20 + (YN : Int) := IntWalk.i64_in _ (by omega)
      have hw2 : IntKind.i64.wrap (20 + (YN : Int) + (nD : Int)) = 20 + (YN : Int) + (nD : Int) := IntWalk.i64_in _ (by omega)
      clear hb1 hblk1 ho1 eY eYN hany hlong hpl
      by_cases hmost : 1480 < 20 + YN + nD
      · have hm : 1480 < 20 + (YN : Int) + (nD : Int) := by omega
        go_wp2_with fail
        go_ret2
        unfold SegPutIs
        rw [if_neg Hany.out, if_neg Hlong.out, if_pos (by unfold lenB optB; simp only [EY.out, EYN.out, Hdl.out]; omega)]
        exact ⟨rfl, Hb1.out⟩
      · have hm : 20 + (YN : Int) + (nD : Int) ≤ 1480 := by omega
        have hzw : z < w1.heap.size := lt_of_block Hblk1.out
        have hbm : Below w1.heap.size w1 (w1.alloc (.cells (madeCells #[Value.int .u8 0] 20) 5)) := (Below.refl _ _).alloc (Nat.le_refl _) _
        have hrow := made_own w1 w1.heap.size 20 rfl (by omega)
        have hk0 := blk_on Hblk1.out hbm
        obtain ⟨g, eg⟩ : ∃ g, w1.heap.size = g := ⟨_, rfl⟩
        rw [eg] at hzw hrow
        have hzg : z ≠ g := by omega
        have hgz : g ≠ z := by omega
        have HO0 := Lib.hid hrow
        have HK0 := Lib.hid hk0
        have Hbm := Lib.hid (show Below g w1 (w1.alloc (.cells (madeCells #[Value.int .u8 0] 20) 5)) from by rw [← eg]; exact hbm)
        obtain ⟨w0, ew0⟩ : ∃ w0, w1.alloc (.cells (madeCells #[Value.int .u8 0] 20) 5) = w0 := ⟨_, rfl⟩
        rw [ew0] at HO0 HK0 Hbm
        have HB0 := Lib.hid (But.refl (fun k => k = g) w0)
        clear c10 c11 c12 c13 c14 c15 c16
        have hcells := seg_cells HK0.out
        obtain ⟨c0, c1', c2, c3, c4, c5, c6, c7, c8⟩ := hcells
        have n1 := Hnum.out.sp
        have n2 := Hnum.out.dp
        have n3 := Hnum.out.wn
        have n4 := Hnum.out.ug
        simp only at n1 n2 n3 n4
        have e1 : sp % 4294967296 = sp := by omega
        have e2 : dp % 4294967296 = dp := by omega
        have e3 : wn % 4294967296 = wn := by omega
        have e4 : ug % 4294967296 = ug := by omega
        have hsq := Hnum.out.sq
        have hak := Hnum.out.ak
        simp only at hsq hak
        have ho8 : IntKind.u8.wrap ((20 + (YN : Int)) / 4 * 16) = (20 + (YN : Int)) / 4 * 16 := by simp [IntKind.wrap, IntKind.bits, IntKind.signed]; omega
        have ho64 : IntKind.i64.wrap ((20 + (YN : Int)) / 4 * 16) = (20 + (YN : Int)) / 4 * 16 := IntWalk.i64_in _ (by omega)
        clear hbm hrow hk0
        go_wp2_with fail
        refine (lay_any g g 20 20 0 2 0 2 (List.replicate 20 0) sp _ (by omega) (by omega) (by omega) rfl rfl (by omega) HO0.out).mono ?_
        rintro e q1 ⟨rfl, ho, hb⟩
        have HO1 := Lib.hid ho
        have HB1 := Lib.hid (HB0.out.trans hb)
        have hblk := hb.blk HK0.out (by omega)
        have HK1 := Lib.hid hblk
        clear c0 c1' c2 c3 c4 c5 c6 c7 c8
        obtain ⟨c0, c1', c2, c3, c4, c5, c6, c7, c8⟩ := seg_cells hblk
        clear ho hb hblk
        obtain ⟨L1, eL1⟩ : ∃ L, setsL (List.replicate 20 0) 0 2 sp 2 = L := ⟨_, rfl⟩
        rw [eL1] at HO1
        go_wp2_with fail
        refine (lay_any g g 20 20 2 2 2 2 L1 dp _ (by omega) (by omega) (by omega) rfl rfl (by omega) HO1.out).mono ?_
        rintro e q2 ⟨rfl, ho, hb⟩
        have HO2 := Lib.hid ho
        have HB2 := Lib.hid (HB1.out.trans hb)
        have hblk := hb.blk HK1.out (by omega)
        have HK2 := Lib.hid hblk
        clear c0 c1' c2 c3 c4 c5 c6 c7 c8
        obtain ⟨c0, c1', c2, c3, c4, c5, c6, c7, c8⟩ := seg_cells hblk
        clear ho hb hblk
        obtain ⟨L2, eL2⟩ : ∃ L, setsL L1 2 2 dp 2 = L := ⟨_, rfl⟩
        rw [eL2] at HO2
        go_wp2_with fail
        refine (lay_any g g 20 20 4 4 4 4 L2 sq _ (by omega) (by omega) (by omega) rfl rfl (by omega) HO2.out).mono ?_
        rintro e q3 ⟨rfl, ho, hb⟩
        have HO3 := Lib.hid ho
        have HB3 := Lib.hid (HB2.out.trans hb)
        have hblk := hb.blk HK2.out (by omega)
        have HK3 := Lib.hid hblk
        clear c0 c1' c2 c3 c4 c5 c6 c7 c8
        obtain ⟨c0, c1', c2, c3, c4, c5, c6, c7, c8⟩ := seg_cells hblk
        clear ho hb hblk
        obtain ⟨L3, eL3⟩ : ∃ L, setsL L2 4 4 sq 4 = L := ⟨_, rfl⟩
        rw [eL3] at HO3
        go_wp2_with fail
        refine (lay_any g g 20 20 8 4 8 4 L3 ak _ (by omega) (by omega) (by omega) rfl rfl (by omega) HO3.out).mono ?_
        rintro e q4 ⟨rfl, ho, hb⟩
        have HO4 := Lib.hid ho
        have HB4 := Lib.hid (HB3.out.trans hb)
        have hblk := hb.blk HK3.out (by omega)
        have HK4 := Lib.hid hblk
        clear c0 c1' c2 c3 c4 c5 c6 c7 c8
        obtain ⟨c0, c1', c2, c3, c4, c5, c6, c7, c8⟩ := seg_cells hblk
        clear ho hb hblk
        obtain ⟨L4, eL4⟩ : ∃ L, setsL L3 8 4 ak 4 = L := ⟨_, rfl⟩
        rw [eL4] at HO4
        obtain ⟨-, hc12, hf12⟩ := own_index HO4.out 12 12 (by omega) rfl
        obtain ⟨-, hc13, hf13⟩ := own_index HO4.out 13 13 (by omega) rfl
        have hO5 := (HO4.out.set_ 12 ((20 + (YN : Int)) / 4 * 16)).set_ 13 fl
        have hB5 := ((But.refl (fun k => k = g) q4).setCell (p := ⟨g, 12, none⟩) rfl (.int .u8 ((20 + (YN : Int)) / 4 * 16))).setCell (p := ⟨g, 13, none⟩) rfl (.int .u8 fl)
        have hK5 := hB5.blk HK4.out (by omega)
        obtain ⟨q5, eq5⟩ : ∃ q, (q4.setCell ⟨g, 12, none⟩ (.int .u8 ((20 + (YN : Int)) / 4 * 16))).setCell ⟨g, 13, none⟩ (.int .u8 fl) = q := ⟨_, rfl⟩
        rw [eq5] at hO5 hB5 hK5
        have HO5 := Lib.hid hO5
        have HB5 := Lib.hid (HB4.out.trans hB5)
        have HK5 := Lib.hid hK5
        obtain ⟨L5, eL5⟩ : ∃ L, (L4.set 12 ((20 + (YN : Int)) / 4 * 16)).set 13 fl = L := ⟨_, rfl⟩
        rw [eL5] at HO5
        obtain ⟨d0, d1, d2, d3, d4, d5, d6, d7, d8⟩ := seg_cells HK5.out
        clear hO5 hB5
        go_wp2_with fail
        clear d0 d1 d2 d3 d4 d5 d6 d7 d8 hc12 hf12 hc13 hf13 eq5
        refine (lay_any g g 20 20 14 2 14 2 L5 wn _ (by omega) (by omega) (by omega) rfl rfl (by omega) HO5.out).mono ?_
        rintro e q6 ⟨rfl, ho, hb⟩
        have HO6 := Lib.hid ho
        have HB6 := Lib.hid (HB5.out.trans hb)
        have hblk := hb.blk HK5.out (by omega)
        have HK6 := Lib.hid hblk
        clear c0 c1' c2 c3 c4 c5 c6 c7 c8
        obtain ⟨c0, c1', c2, c3, c4, c5, c6, c7, c8⟩ := seg_cells hblk
        clear ho hb hblk
        obtain ⟨L6, eL6⟩ : ∃ L, setsL L5 14 2 wn 2 = L := ⟨_, rfl⟩
        rw [eL6] at HO6
        go_wp2_with fail
        refine (lay_any g g 20 20 18 2 18 2 L6 ug _ (by omega) (by omega) (by omega) rfl rfl (by omega) HO6.out).mono ?_
        rintro e q7 ⟨rfl, ho, hb⟩
        have HO7 := Lib.hid ho
        have HB7 := Lib.hid (HB6.out.trans hb)
        have hblk := hb.blk HK6.out (by omega)
        have HK7 := Lib.hid hblk
        clear c0 c1' c2 c3 c4 c5 c6 c7 c8
        obtain ⟨c0, c1', c2, c3, c4, c5, c6, c7, c8⟩ := seg_cells hblk
        clear ho hb hblk
        obtain ⟨L7, eL7⟩ : ∃ L, setsL L6 18 2 ug 2 = L := ⟨_, rfl⟩
        rw [eL7] at HO7
        have hL7 : L7 = segHd ⟨sp, dp, sq, ak, fl, wn, ug, os, d⟩ ((20 + (YN : Int)) / 4 * 16) 0 := by
          rw [← eL7, ← eL6, ← eL5, ← eL4, ← eL3, ← eL2, ← eL1]
          simp [setsL, segHd, b2, b4, List.replicate]
        have hYb : ∀ x ∈ Y, 0 ≤ x ∧ x < 256 := by
          rw [← EY.out]
          exact padTo4_bytes_ (bytesO_bytes hby (fun l hl => (badB_false (by have h1 := Hany.out; rw [Bool.not_eq_true, List.any_eq_false] at h1; simpa using h1 l hl)).2))
        have hrY := rd_step (Ho1.out.rd hYb) eg Hbm.out HB7.out
        have hrd := rd_step Hd1.out eg Hbm.out HB7.out
        have hzc := c8
        have Hlt := Lib.hid (show z < q7.heap.size by have := HB7.out.size; have := Hbm.out.size; omega)
        have hg7 : g ≤ q7.heap.size := by obtain ⟨g', _, h1, h2⟩ := HO7.out.addr (by omega); omega
        have hL7b : ∀ x ∈ L7, 0 ≤ x ∧ x < 256 := by rw [hL7]; exact segHd_bytes _ _ _ (by have := Hnum.out.fl; simpa using this) (by omega)
        have hlow : ∀ b o, AD = some ⟨b, o, none⟩ → 0 < nD → b < g := fun b o e h0 => by
          obtain ⟨b', o', e', hlt, _⟩ := Hd1.out.at_ h0
          rw [e] at e'; injection e' with e'; injection e' with e' _
          omega
        have HrY := Lib.hid hrY
        have Hrd := Lib.hid hrd
        clear hrY hrd eL1 eL2 eL3 eL4 eL5 eL6 eL7
        go_wp2_with (first | (refine wpList_app rfl (.tmp 69) (.tmp 70) rfl g (some ⟨g, 0, none⟩) A1 20 20 YN c1 L7 Y rfl rfl HO7.out HrY.out (by omega) hg7 ?_; intro A8 c8w w8 hown8 _ hb8 _; have hc88 := (hb8.cell (p := ⟨z, 8, none⟩) hzw).trans hzc; have hrd8 := rd_low Hrd.out hlow hb8) | (refine wpList_app rfl (.tmp 72) (.tmp 74) rfl g A8 AD (20 + YN) c8w nD cD _ d rfl rfl hown8 hrd8 (by omega) (Nat.le_trans hg7 hb8.size) ?_; intro A9 c9 w9 hown9 _ hb9 _))
        obtain ⟨n9, en9⟩ : ∃ n9, 20 + YN + nD = n9 := ⟨_, rfl⟩
        obtain ⟨l9, el9⟩ : ∃ l9, L7 ++ Y ++ d = l9 := ⟨_, rfl⟩
        have hn9 : n9 ≤ 1480 := by omega
        have h9b : ∀ x ∈ l9, 0 ≤ x ∧ x < 256 := by
          rw [← el9]
          intro x hx
          rcases List.mem_append.1 hx with h1 | h1
          · rcases List.mem_append.1 h1 with h2 | h2
            · exact hL7b x h2
            · exact hYb x h2
          · exact Hd.out.byte x h1
        rw [en9, el9] at hown9
        simp only [en9]
        obtain ⟨g9, eA9, hg9, hg9l⟩ := hown9.addr (by omega)
        subst eA9
        have hb79 := hb8.trans hb9
        have Hown9 := Lib.hid hown9
        have Hb79 := Lib.hid hb79
        have hg79 := hb79.size
        have Hsum := Lib.hid (sumL_bd (pseudoL src dst 6 n9 ++ l9))
        clear hown8 hb8 hc88 hrd8 hown9 hb9 hb79 hzc
        refine (whole_any src dst (some ⟨g9, 0, none⟩) n9 c9 l9 w9 (by omega) (Hown9.out.rd h9b)).mono ?_
        rintro e w10 ⟨A10, c10', rfl, _, _, hown10, hb10⟩
        have hfld := rfield_any A10 (12 + n9) c10' (pseudoL src dst 6 n9 ++ l9) w10 (by omega) (hown10.rd (fun x hx => by
          rcases List.mem_append.1 hx with h1 | h1
          · exact pseudo_byte _ _ _ _ (by omega) x h1
          · exact h9b x h1))
        have Hf := Lib.hid hfld
        have HO10 := Lib.hid (Hown9.out.on hb10)
        have Hb10 := Lib.hid hb10
        clear hown10 hb10 hfld
        go_wp2_with fail
        refine Hf.out.mono ?_
        rintro e w10' ⟨rfl, rfl⟩
        obtain ⟨ff, eff⟩ : ∃ f, 65535 - sumL (pseudoL src dst 6 n9 ++ l9) = f := ⟨_, rfl⟩
        have hff : 0 ≤ ff ∧ ff < 4294967296 := by have := Hsum.out; omega
        have e5 : ff % 4294967296 = ff := by omega
        simp only [eff]
        go_wp2_with fail
        refine (lay_any g g9 n9 c9 16 2 16 2 l9 ff w10 (by omega) (by omega) (by omega) rfl rfl hff HO10.out).mono ?_
        rintro e w11 ⟨rfl, ho11, hb11⟩
        have Ho11 := Lib.hid ho11
        have Hb11 := Lib.hid hb11
        clear ho11 hb11
        go_wp2_with fail
        go_ret2
        have hlen : lenB ⟨sp, dp, sq, ak, fl, wn, ug, os, d⟩ = n9 := by unfold lenB optB; simp only [EY.out, EYN.out, Hdl.out]; exact en9
        have hoff : offS ⟨sp, dp, sq, ak, fl, wn, ug, os, d⟩ = (20 + (YN : Int)) / 4 * 16 := by unfold offS optB; simp only [EY.out, EYN.out]
        have hfs : fieldS src dst ⟨sp, dp, sq, ak, fl, wn, ug, os, d⟩ = ff := by
          unfold fieldS
          rw [hlen, hoff, ← hL7]
          unfold optB
          simp only [EY.out]
          rw [el9]
          exact eff
        have hsb : segB src dst ⟨sp, dp, sq, ak, fl, wn, ug, os, d⟩ = setsL l9 16 2 ff 2 := by
          unfold segB
          rw [hfs, hoff, ← el9, hL7]
          unfold optB
          simp only [EY.out]
          simp [setsL, segHd, b2, b4]
        have hgw : w.heap.size ≤ g := by have := Hb1.out.size; omega
        have hB7 : Below g w0 q7 := HB7.out.below (fun k hk => by omega) (by have := Hbm.out.size; omega)
        have hBa : Below g w1 w11 := ((Hbm.out.trans hB7).trans Hb79.out).trans ((Hb10.out.mono (by omega)).trans (Hb11.out.below (B := g) (fun k hk => by omega) (by have := Hb10.out.size; omega)))
        unfold SegPutIs
        rw [if_neg Hany.out, if_neg Hlong.out, if_neg (by rw [hlen]; omega), hlen, hsb]
        exact ⟨_, c9, rfl, Ho11.out.mono hgw, Hb1.out.trans (hBa.mono hgw)⟩

end Go.Proofs.YtkooehejdfaekaaGreat

/-
  A drawn region whose LAST operation turns what the region read (a store to a cell that it loads, an append onto a row that it reads): the condition S is asked behind every operation but that one. No function of the program.
-/
namespace Go.Proofs.YtkooehejdfaekaaGreat
set_option maxRecDepth 10000
section
variable {P : Program} {ops : Array Oper} {Q : Exit → Act → World → Prop} {md : Region.Mode} {S : World → Prop} {last : Nat}

/-- Whatever order is picked from here on, and S holds behind every operation that is carried out, but the last one. -/
def anyHL (P : Program) (md : Region.Mode) (ops : Array Oper) (Q : Exit → Act → World → Prop) (S : World → Prop) (last : Nat) : Nat → Array Bool → Act → World → Prop
  | 0, listed, a, w => Region.ready md ops listed = [] ∧ Q .normal a w
  | fuel + 1, listed, a, w =>
    (Region.ready md ops listed = [] → Q .normal a w) ∧
    ∀ i ∈ Region.ready md ops listed, wpOp P ops Q i (fun a' w' => (i ≠ last → S w') ∧ anyHL P md ops Q S last fuel (listed.setIfInBounds i true) a' w') a w
theorem wpAny_of_HL : ∀ (fuel : Nat) (listed : Array Bool) (a : Act) (w : World), anyHL P md ops Q S last fuel listed a w → wpAny P md ops Q fuel listed a w
  | 0, _, _, _, h => h
  | fuel + 1, _, _, _, h => ⟨h.1, fun i hi => wpOp_mono (fun a' w' h' => wpAny_of_HL fuel _ a' w' h'.2) (h.2 i hi)⟩

theorem anyHL_first {i : Nat} {oi : Oper} {v : Value} (hi : ops[i]? = some oi) (hil : i ≠ last) (hdep : ∃ ol, ops[last]? = some ol ∧ ∃ e ∈ ol.after, Region.binds md e = true ∧ e.on = i)
    (hsel : ∀ (j : Nat) (o : Oper) cs b, ops[j]? = some o → o.op ≠ .select cs b) (hQ : ∀ c a w, Q (.panic c) (a.put oi.dst v) w → Q (.panic c) a w) :
    ∀ (fuel : Nat) (listed : Array Bool) (a : Act) (w : World),
      (∀ j oj, ops[j]? = some oj → j ≠ i → listed.getD j true = false → (∀ e ∈ oj.after, Region.binds md e = true → e.on ≠ i) → oi.apart ops oj = true) →
      i ∈ Region.ready md ops listed → YieldsIf P ops S oi v a → S w →
      anyHL P md ops Q S last fuel (listed.setIfInBounds i true) (a.put oi.dst v) w → anyHL P md ops Q S last (fuel + 1) listed a w := by
  intro fuel
  induction fuel with
  | zero =>
    intro listed a w _ hr hy hS H
    refine ⟨fun h => (by rw [h] at hr; cases hr), fun j hj => ?_⟩
    by_cases hji : j = i
    · subst hji; exact hy.wpOp hi hS ⟨fun _ => hS, H⟩
    · have := ready_mono hj hji
      rw [H.1] at this
      cases this
  | succ fuel ih =>
    intro listed a w hfree hr hy hS H
    refine ⟨fun h => (by rw [h] at hr; cases hr), fun j hj => ?_⟩
    by_cases hji : j = i
    · subst hji; exact hy.wpOp hi hS ⟨fun _ => hS, H⟩
    · have h1 := H.2 j (ready_mono hj hji)
      obtain ⟨hjun, oj, hoj, hall⟩ := mem_ready.1 hj
      have hnot : ∀ e ∈ oj.after, Region.binds md e = true → e.on ≠ i := fun e he hb heq => by
        have h1 := hall e he hb
        have h0 := (mem_ready.1 hr).1
        rw [heq] at h1
        rcases Nat.lt_or_ge i listed.size with h' | h'
        · simp [h'] at h0 h1; rw [h0] at h1; cases h1
        · simp [Array.getElem?_eq_none h'] at h1
      have hjl : j ≠ last := by
        intro e
        subst e
        obtain ⟨ol, hol, e, he, hb, heq⟩ := hdep
        rw [hoj] at hol
        injection hol with hol
        subst hol
        exact hnot e he hb heq
      have h2 := wpOp_putIf hoj (hfree j oj hoj hji hjun hnot) (fun cs b => hsel i oi cs b hi) (fun cs b => hsel j oj cs b hoj) hQ hy h1
      have hfree' : ∀ k ok, ops[k]? = some ok → k ≠ i → (listed.setIfInBounds j true).getD k true = false →
          (∀ e ∈ ok.after, Region.binds md e = true → e.on ≠ i) → oi.apart ops ok = true := fun k ok hk hki hun hno => by
        refine hfree k ok hk hki ?_ hno
        by_cases hjk : j = k
        · subst hjk; exact hjun
        · rw [getD_set_ne true hjk] at hun; exact hun
      refine wpOp_mono (fun a' w' h3 => ⟨fun _ => h3.2.1 hjl, ih (listed.setIfInBounds j true) a' w' hfree' (ready_mono hr (Ne.symm hji)) h3.1 (h3.2.1 hjl) ?_⟩) h2
      rw [Array.setIfInBounds_comm _ _ hji]
      exact h3.2.2

/-- Whether the last operation waits for number i by an edge of its own. -/
def waitsFor (md : Region.Mode) (ops : Array Oper) (last i : Nat) : Bool := (i != last) && ((ops[last]?).map (fun o => o.after.any fun e => Region.binds md e && (e.on == i))).getD false
theorem waits_spec {i : Nat} (h : waitsFor md ops last i = true) : i ≠ last ∧ ∃ ol, ops[last]? = some ol ∧ ∃ e ∈ ol.after, Region.binds md e = true ∧ e.on = i := by
  unfold waitsFor at h
  rw [Bool.and_eq_true] at h
  refine ⟨by simpa using h.1, ?_⟩
  cases ho : ops[last]? with
  | none => rw [ho] at h; simp at h
  | some ol =>
    rw [ho] at h
    simp only [Option.map_some, Option.getD_some] at h
    obtain ⟨k, hk, hp⟩ := Array.any_eq_true.1 h.2
    rw [Bool.and_eq_true] at hp
    exact ⟨ol, rfl, ol.after[k], Array.getElem_mem hk, hp.1, by simpa using hp.2⟩
theorem anyHL_take {i : Nat} {oi : Oper} {v : Value} {fuel : Nat} {listed : Array Bool} {a : Act} {w : World} (hi : ops[i]? = some oi) (hwt : waitsFor md ops last i = true)
    (hs : Region.noSelect ops = true) (hf : Region.free md ops listed i = true) (hr : (Region.ready md ops listed).contains i = true)
    (hQ : ∀ c a w, Q (.panic c) (a.put oi.dst v) w → Q (.panic c) a w) (hy : YieldsIf P ops S oi v a) (hS : S w)
    (h : anyHL P md ops Q S last fuel (listed.setIfInBounds i true) (a.put oi.dst v) w) : anyHL P md ops Q S last (fuel + 1) listed a w :=
  anyHL_first hi (waits_spec hwt).1 (waits_spec hwt).2 (Region.noSelect_spec hs) hQ fuel listed a w (Region.free_spec hi hf) (by simpa using hr) hy hS h
/-- The one that alone may come up. -/
theorem anyHL_one {i : Nat} {o : Oper} {fuel : Nat} {listed : Array Bool} {a : Act} {w : World} (hr : Region.ready md ops listed = [i]) (ho : ops[i]? = some o) (hil : (i != last) = true)
    (h : ∀ K' : Act → World → Prop, Shut (∀ a w, S w → (S w → anyHL P md ops Q S last fuel (listed.setIfInBounds i true) a w) → K' a w) → if Region.wanted o (yielded ops a.tmps) = true then Oper.wp P o a w K' Q else K' (a.put o.dst undef) w) :
    anyHL P md ops Q S last (fuel + 1) listed a w :=
  ⟨fun h0 => absurd (hr.symm.trans h0) (by simp), fun j hj => by
    rw [hr] at hj
    obtain rfl : j = i := by simpa using hj
    exact wpOp_step ho (fun K' hK => h K' (fun a w hS hW => hK a w ⟨fun _ => hS, hW hS⟩))⟩
theorem anyHL_done {listed : Array Bool} {a : Act} {w : World} (hr : Region.ready md ops listed = []) (h : Q .normal a w) : ∀ fuel, anyHL P md ops Q S last fuel listed a w
  | 0 => ⟨hr, h⟩
  | _ + 1 => ⟨fun _ => h, by rw [hr]; simp⟩
/-- The last one. -/
theorem anyHL_last {o : Oper} {fuel : Nat} {listed : Array Bool} {a : Act} {w : World} (hr : Region.ready md ops listed = [last]) (ho : ops[last]? = some o) (hd : Region.ready md ops (listed.setIfInBounds last true) = [])
    (h : ∀ K' : Act → World → Prop, Shut (∀ a w, Q .normal a w → K' a w) → if Region.wanted o (yielded ops a.tmps) = true then Oper.wp P o a w K' Q else K' (a.put o.dst undef) w) :
    anyHL P md ops Q S last (fuel + 1) listed a w :=
  ⟨fun h0 => absurd (hr.symm.trans h0) (by simp), fun j hj => by
    rw [hr] at hj
    obtain rfl : j = last := by simpa using hj
    exact wpOp_step ho (fun K' hK => h K' (fun a w hq => hK a w ⟨fun e => absurd rfl e, anyHL_done hd hq _⟩))⟩
theorem wp_region_heldL {id : Nat} {a : Act} {w : World} (last : Nat) (hm : P.follows .mixedOrders = true) (hS : S w.drew)
    (h : S w.drew → anyHL P .any ops Q S last ops.size (Array.replicate ops.size false) a w.drew) : (Code.region id ops true).wp P Q a w :=
  wp_region_any hm (wpAny_of_HL _ _ _ _ (h hS))
end
end Go.Proofs.YtkooehejdfaekaaGreat

/-
  The contract of culvertref06's Parse.
-/
namespace Go.Proofs.YtkooehejdfaekaaGreat
set_option maxRecDepth 10000
open Go.RowKit

/-- The rest of a row of bytes, s[lo:], as one run equation. -/
theorem Rd.rest {w : World} {A : Option Addr} {n c : Nat} {l : List Int} (h : Rd w A n l) (lo : Nat) (loi : Int) (h0 : 0 < n) (hlo : lo ≤ n) (hc : n ≤ c) (hcm : c ≤ maxLen) (el : loi = (lo : Int)) :
    ∃ A', (∀ W : World, (Instr.sliceAt 24 (.slice A n c) (some (.int .i64 loi)) none none).run Tryz.prog W = .ok (.slice A' (n - lo) (c - lo)) W) ∧ Rd w A' (n - lo) (l.drop lo) := by
  subst el
  obtain ⟨b, o, rfl, _, _⟩ := h.at_ h0
  unfold maxLen at hcm
  have i0 : (0 : Int) ≤ (lo : Int) := by omega
  have i1 : (lo : Int) ≤ (n : Int) := by omega
  have i2 : (n : Int) ≤ (c : Int) := by omega
  have i3 : lo ≤ c := by omega
  by_cases hl : lo = c
  · subst hl
    obtain rfl : n = lo := by omega
    refine ⟨some ⟨b, o, none⟩, fun W => by go_simp, ?_⟩
    rw [Nat.sub_self, List.drop_eq_nil_of_le (by rw [h.len]; omega)]
    exact Rd.nil _ _
  · have i4 : ¬ c = lo := fun e => hl e.symm
    refine ⟨some ⟨b, o + lo, none⟩, fun W => by go_simp, ?_⟩
    exact h.drop_ rfl (by omega)

def zeroSeg : Seg := ⟨0, 0, 0, 0, 0, 0, 0, [], []⟩
def segOf (b : List Int) (n : Nat) : Seg :=
  ⟨numL ((b.drop 0).take 2), numL ((b.drop 2).take 2), numL ((b.drop 4).take 4), numL ((b.drop 8).take 4), b.getD 13 0, numL ((b.drop 14).take 2), numL ((b.drop 18).take 2), (parseO ((b.take n).drop 20)).1, b.drop n⟩
/-- How many bytes it says stand ahead of the Data. -/
def offB (b : List Int) : Nat := (b.getD 12 0 / 16 * 4).toNat
/-- What is wrong with a segment's bytes. -/
def errSeg (src dst : Int) (b : List Int) : Int :=
  if 1480 < b.length then 3 else if b.length < 20 then 4 else if offB b < 20 then 5 else if b.length < offB b then 4
  else if sumL (pseudoL src dst 6 b.length ++ b) ≠ 65535 then 20 else if (parseO ((b.take (offB b)).drop 20)).2 ≠ 0 then 5 else 0
theorem cell_set {w : World} {g : Nat} {C : Array Value} {t : TypeId} (h : w.heap[g]? = some (.cells C t (0, 0))) (i : Nat) (hi : i < C.size) (u : Value) : (w.setCell ⟨g, i, none⟩ u).cell? ⟨g, i, none⟩ = some u := by
  have h1 : (w.setCell ⟨g, i, none⟩ u).heap[g]? = some (.cells (C.setIfInBounds i u) t (0, 0)) := by simp [World.setCell, Array.getElem?_modify, h]
  rw [blk_cell h1]
  simp [hi]

theorem blk_set_ {w : World} {g : Nat} {C : Array Value} {t : TypeId} (h : w.heap[g]? = some (.cells C t (0, 0))) (i : Nat) (u : Value) : (w.setCell ⟨g, i, none⟩ u).heap[g]? = some (.cells (C.setIfInBounds i u) t (0, 0)) := by simp [World.setCell, Array.getElem?_modify, h]
theorem set9_cells {w : World} {g : Nat} {u0 u1 u2 u3 u4 u5 u6 u7 u8 : Value} {t : TypeId} (h : w.heap[g]? = some (.cells #[u0, u1, u2, u3, u4, u5, u6, u7, u8] t (0, 0))) (v0 v1 v2 v3 v4 v5 v6 v7 v8 : Value) :
    (w.setCell ⟨g, 0, none⟩ v0).cell? ⟨g, 0, none⟩ = some v0 ∧
    (((w.setCell ⟨g, 0, none⟩ v0)).setCell ⟨g, 1, none⟩ v1).cell? ⟨g, 1, none⟩ = some v1 ∧
    (((((w.setCell ⟨g, 0, none⟩ v0)).setCell ⟨g, 1, none⟩ v1)).setCell ⟨g, 2, none⟩ v2).cell? ⟨g, 2, none⟩ = some v2 ∧
    (((((((w.setCell ⟨g, 0, none⟩ v0)).setCell ⟨g, 1, none⟩ v1)).setCell ⟨g, 2, none⟩ v2)).setCell ⟨g, 3, none⟩ v3).cell? ⟨g, 3, none⟩ = some v3 ∧
    (((((((((w.setCell ⟨g, 0, none⟩ v0)).setCell ⟨g, 1, none⟩ v1)).setCell ⟨g, 2, none⟩ v2)).setCell ⟨g, 3, none⟩ v3)).setCell ⟨g, 4, none⟩ v4).cell? ⟨g, 4, none⟩ = some v4 ∧
    (((((((((((w.setCell ⟨g, 0, none⟩ v0)).setCell ⟨g, 1, none⟩ v1)).setCell ⟨g, 2, none⟩ v2)).setCell ⟨g, 3, none⟩ v3)).setCell ⟨g, 4, none⟩ v4)).setCell ⟨g, 5, none⟩ v5).cell? ⟨g, 5, none⟩ = some v5 ∧
    (((((((((((((w.setCell ⟨g, 0, none⟩ v0)).setCell ⟨g, 1, none⟩ v1)).setCell ⟨g, 2, none⟩ v2)).setCell ⟨g, 3, none⟩ v3)).setCell ⟨g, 4, none⟩ v4)).setCell ⟨g, 5, none⟩ v5)).setCell ⟨g, 6, none⟩ v6).cell? ⟨g, 6, none⟩ = some v6 ∧
    (((((((((((((((w.setCell ⟨g, 0, none⟩ v0)).setCell ⟨g, 1, none⟩ v1)).setCell ⟨g, 2, none⟩ v2)).setCell ⟨g, 3, none⟩ v3)).setCell ⟨g, 4, none⟩ v4)).setCell ⟨g, 5, none⟩ v5)).setCell ⟨g, 6, none⟩ v6)).setCell ⟨g, 7, none⟩ v7).cell? ⟨g, 7, none⟩ = some v7 ∧
    (((((((((((((((((w.setCell ⟨g, 0, none⟩ v0)).setCell ⟨g, 1, none⟩ v1)).setCell ⟨g, 2, none⟩ v2)).setCell ⟨g, 3, none⟩ v3)).setCell ⟨g, 4, none⟩ v4)).setCell ⟨g, 5, none⟩ v5)).setCell ⟨g, 6, none⟩ v6)).setCell ⟨g, 7, none⟩ v7)).setCell ⟨g, 8, none⟩ v8).cell? ⟨g, 8, none⟩ = some v8 := by
  have h1 := blk_set_ h 0 v0
  have h2 := blk_set_ h1 1 v1
  have h3 := blk_set_ h2 2 v2
  have h4 := blk_set_ h3 3 v3
  have h5 := blk_set_ h4 4 v4
  have h6 := blk_set_ h5 5 v5
  have h7 := blk_set_ h6 6 v6
  have h8 := blk_set_ h7 7 v7
  exact ⟨cell_set h 0 (by simp) v0, cell_set h1 1 (by simp) v1, cell_set h2 2 (by simp) v2, cell_set h3 3 (by simp) v3, cell_set h4 4 (by simp) v4, cell_set h5 5 (by simp) v5, cell_set h6 6 (by simp) v6, cell_set h7 7 (by simp) v7, cell_set h8 8 (by simp) v8⟩

end Go.Proofs.YtkooehejdfaekaaGreat

/-
  The contract of culvertref06's Parse where nothing is wrong.
-/
namespace Go.Proofs.YtkooehejdfaekaaGreat
set_option maxRecDepth 10000
open Go.RowKit

theorem set9_but (w : World) (q : Nat) (v0 v1 v2 v3 v4 v5 v6 v7 v8 : Value) : But (fun k => k = q) w (((((((((w.setCell ⟨q, 0, none⟩ v0).setCell ⟨q, 1, none⟩ v1).setCell ⟨q, 2, none⟩ v2).setCell ⟨q, 3, none⟩ v3).setCell ⟨q, 4, none⟩ v4).setCell ⟨q, 5, none⟩ v5).setCell ⟨q, 6, none⟩ v6).setCell ⟨q, 7, none⟩ v7).setCell ⟨q, 8, none⟩ v8) := ((((((((((But.refl (fun k => k = q) w).setCell (p := ⟨q, 0, none⟩) rfl v0).setCell (p := ⟨q, 1, none⟩) rfl v1).setCell (p := ⟨q, 2, none⟩) rfl v2).setCell (p := ⟨q, 3, none⟩) rfl v3).setCell (p := ⟨q, 4, none⟩) rfl v4).setCell (p := ⟨q, 5, none⟩) rfl v5).setCell (p := ⟨q, 6, none⟩) rfl v6).setCell (p := ⟨q, 7, none⟩) rfl v7).setCell (p := ⟨q, 8, none⟩) rfl v8)

end Go.Proofs.YtkooehejdfaekaaGreat
