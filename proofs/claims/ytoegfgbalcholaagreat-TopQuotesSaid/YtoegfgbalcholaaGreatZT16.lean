/-
  Texts laid together: TcpPut, IpAsk.
-/
import Derived.Test.YtoegfgbalcholaaGreatZT01
import Derived.Test.YtoegfgbalcholaaGreatZT12
import Derived.Test.YtoegfgbalcholaaGreatZT15
import Derived.Deep.RegionHeld3
import Derived.Test.YtoegfgbalcholaaGreatZT06

/-
  The contract of package tcp's Put: the error by which the segment may not be, or its bytes, as the document has them.
-/
namespace Go.Proofs.YtoegfgbalcholaaGreat
set_option maxRecDepth 10000
open Go.RowKit

theorem be16_b2 (x : Int) (h : 0 ≤ x ∧ x < 65536) : be16 x = b2 x := by unfold be16 b2; rw [show x / 256 % 256 = x / 256 by omega]
theorem be32_b4 (x : Int) (h : 0 ≤ x ∧ x < 4294967296) : be32 x = b4 x := by unfold be32 b4; rw [show x / 16777216 % 256 = x / 16777216 by omega]
theorem below_alloc {w w' : World} {o : Obj} (hb : Below (w.alloc o).heap.size (w.alloc o) w') : Below w.heap.size w w' := ((Below.refl _ _).alloc (Nat.le_refl _) _).trans (hb.mono (by simp))

theorem RdP.seven (w : World) (g : Nat) (hg : w.heap.size = g) (t : TypeId) (fr : Nat × Nat) (F1 F2 F3 F4 F5 F6 F7 : FuncId) (C1 C2 C3 C4 C5 C6 C7 : Array Value) (l1 l2 l3 l4 l5 l6 l7 : List Int)
    (h1 : PartDo F1 C1 w l1) (h2 : PartDo F2 C2 w l2) (h3 : PartDo F3 C3 w l3) (h4 : PartDo F4 C4 w l4) (h5 : PartDo F5 C5 w l5) (h6 : PartDo F6 C6 w l6) (h7 : PartDo F7 C7 w l7) :
    RdP (w.alloc (.cells #[.func (.func F1) #[] C1, .func (.func F2) #[] C2, .func (.func F3) #[] C3, .func (.func F4) #[] C4, .func (.func F5) #[] C5, .func (.func F6) #[] C6, .func (.func F7) #[] C7] t fr)) (some ⟨g, 0, none⟩) 7 [l1, l2, l3, l4, l5, l6, l7] := by
  refine RdP.row w g hg t fr [.func (.func F1) #[] C1, .func (.func F2) #[] C2, .func (.func F3) #[] C3, .func (.func F4) #[] C4, .func (.func F5) #[] C5, .func (.func F6) #[] C6, .func (.func F7) #[] C7] _ 7 rfl (fun i hi => ?_)
  match i, hi with
  | 0, _ => exact ⟨F1, C1, rfl, h1⟩
  | 1, _ => exact ⟨F2, C2, rfl, h2⟩
  | 2, _ => exact ⟨F3, C3, rfl, h3⟩
  | 3, _ => exact ⟨F4, C4, rfl, h4⟩
  | 4, _ => exact ⟨F5, C5, rfl, h5⟩
  | 5, _ => exact ⟨F6, C6, rfl, h6⟩
  | 6, _ => exact ⟨F7, C7, rfl, h7⟩
theorem RdP.three (w : World) (g : Nat) (hg : w.heap.size = g) (t : TypeId) (fr : Nat × Nat) (F1 F2 F3 : FuncId) (C1 C2 C3 : Array Value) (l1 l2 l3 : List Int)
    (h1 : PartDo F1 C1 w l1) (h2 : PartDo F2 C2 w l2) (h3 : PartDo F3 C3 w l3) :
    RdP (w.alloc (.cells #[.func (.func F1) #[] C1, .func (.func F2) #[] C2, .func (.func F3) #[] C3] t fr)) (some ⟨g, 0, none⟩) 3 [l1, l2, l3] := by
  refine RdP.row w g hg t fr [.func (.func F1) #[] C1, .func (.func F2) #[] C2, .func (.func F3) #[] C3] _ 3 rfl (fun i hi => ?_)
  match i, hi with
  | 0, _ => exact ⟨F1, C1, rfl, h1⟩
  | 1, _ => exact ⟨F2, C2, rfl, h2⟩
  | 2, _ => exact ⟨F3, C3, rfl, h3⟩

theorem RdL.threeW (w : World) (t : TypeId) (A B C : Option Addr) (n c n1 c1 n2 c2 : Nat) (l l1 l2 : List Int) (hc : n ≤ c ∧ c ≤ maxLen) (hc1 : n1 ≤ c1 ∧ c1 ≤ maxLen) (hc2 : n2 ≤ c2 ∧ c2 ≤ maxLen) (h : Rd w A n l) (h1 : Rd w B n1 l1) (h2 : Rd w C n2 l2) :
    RdL (w.alloc (.cells #[.slice A n c, .slice B n1 c1, .slice C n2 c2] t)) (some ⟨w.heap.size, 0, none⟩) 3 [l, l1, l2] := by
  have := h.len; have := h1.len; have := h2.len
  subst n n1 n2
  refine RdL.row w _ rfl t (0, 0) [.slice A l.length c, .slice B l1.length c1, .slice C l2.length c2] [l, l1, l2] (fun i hi => ?_)
  match i, hi with
  | 0, _ => exact ⟨A, c, rfl, hc.1, hc.2, h⟩
  | 1, _ => exact ⟨B, c1, rfl, hc1.1, hc1.2, h1⟩
  | 2, _ => exact ⟨C, c2, rfl, hc2.1, hc2.2, h2⟩
/-- What stands ahead of a segment's field. -/
def aheadT (s : Seg) (off : Int) : List Int := be16 s.sp ++ be16 s.dp ++ be32 s.sq ++ be32 s.ak ++ [off, s.fl] ++ be16 s.wn
theorem aheadT_bytes {s : Seg} {off : Int} (h : SegNum s) (ho : 0 ≤ off ∧ off < 256) : ∀ x ∈ aheadT s off, 0 ≤ x ∧ x < 256 := by
  obtain ⟨h1, h2, h3, h4, h5, h6, h7⟩ := h
  intro x hx
  simp [aheadT, be16, be32] at hx
  omega
theorem segHd_parts {s : Seg} (h : SegNum s) (off f : Int) : segHd s off f = aheadT s off ++ b2 f ++ be16 s.ug := by
  unfold segHd aheadT
  rw [be16_b2 _ h.sp, be16_b2 _ h.dp, be32_b4 _ h.sq, be32_b4 _ h.ak, be16_b2 _ h.wn, be16_b2 _ h.ug]
theorem sumL_nought (p a t : List Int) (hp : p.length % 2 = 0) (ha : a.length % 2 = 0) : sumL (p ++ (a ++ ([0, 0] ++ t))) = sumL (p ++ (a ++ t)) := by
  unfold sumL
  rw [ws_even p _ hp, ws_even a _ ha, ws_even p _ hp, ws_even a _ ha, ws_even [0, 0] t rfl]
  simp [ws]
theorem fieldS_of {s : Seg} (h : SegNum s) (src dst : Int) (n : Int) (hn : n = (lenB s : Int)) : fieldS src dst s = 65535 - sumL ([pseudoL src dst 6 n, aheadT s (offS s), be16 s.ug ++ (optB s ++ s.d)] : List (List Int)).flatten := by
  subst hn
  unfold fieldS
  rw [segHd_parts h]
  have e : aheadT s (offS s) ++ b2 0 ++ be16 s.ug ++ optB s ++ s.d = aheadT s (offS s) ++ ([0, 0] ++ (be16 s.ug ++ (optB s ++ s.d))) := by simp [b2]
  rw [e, sumL_nought _ _ _ (by simp [pseudoL]) (by simp [aheadT, be16, be32])]
  simp
theorem fieldS_bd (src dst : Int) (s : Seg) : 0 ≤ fieldS src dst s ∧ fieldS src dst s < 65536 := by
  unfold fieldS
  have := sumL_bd (pseudoL src dst 6 (lenB s) ++ (segHd s (offS s) 0 ++ optB s ++ s.d))
  omega
theorem segB_parts {s : Seg} (h : SegNum s) (src dst : Int) : segB src dst s = ([aheadT s (offS s), be16 (fieldS src dst s), be16 s.ug ++ (optB s ++ s.d)] : List (List Int)).flatten := by
  unfold segB
  rw [segHd_parts h, be16_b2 _ (fieldS_bd src dst s)]
  simp

def PutErrIs (x : Int) (w : World) (e : Ending) (w' : World) : Prop := e = .returned (.tuple #[.slice Option.none 0 0, .int .i64 x]) ∧ Below w.heap.size w w'
theorem put6_bad (src dst : Int) (s : Seg) (AO : Option Addr) (nO cO : Nat) (oss : List OptV) (AD : Option Addr) (nD cD : Nat) (w : World) (hn : nO ≤ 140737488355328) (hd : nD ≤ 140737488355328) (h : SegRd w s AO nO cO oss AD nD cD) (h0 : errS s ≠ 0) :
    Calls Tryz.prog 57 #[.int .u32 src, .int .u32 dst, .agg #[.int .u16 s.sp, .int .u16 s.dp, .int .u32 s.sq, .int .u32 s.ak, .int .u8 s.fl, .int .u16 s.wn, .int .u16 s.ug, .slice AO nO cO, .slice AD nD cD]] w (PutErrIs (errS s) w) := by
  have hba : Below w.heap.size w (w.alloc (.cells #[.int .u16 s.sp, .int .u16 s.dp, .int .u32 s.sq, .int .u32 s.ak, .int .u8 s.fl, .int .u16 s.wn, .int .u16 s.ug, .slice AO nO cO, .slice AD nD cD] 29)) := (Below.refl _ _).alloc (Nat.le_refl _) _
  have Ho := Lib.hid (options_any s AO nO cO oss AD nD cD _ hn hd (h.below hba))
  have Hba := Lib.hid hba
  clear h hba
  obtain ⟨x, ex⟩ : ∃ x, errS s = x := ⟨_, rfl⟩
  have Ex := Lib.hid ex
  have H0 := Lib.hid h0
  rw [ex] at h0 ⊢
  have hx : (x == 0) = false := by simpa using h0
  have hx2 : (x != 0) = true := by simpa using h0
  clear h0 ex
  obtain ⟨sp, dp, sq, ak, fl, wn, ug, os, d⟩ := s
  simp only at Ho Hba H0 Ex ⊢
  go_enter Tryz.func57, Tryz.ntmps57
  go_wp2_with fail
  refine Ho.out.mono ?_
  intro e w1 ho
  obtain ⟨rfl, hb1⟩ := options_bad ho H0.out
  rw [Ex.out]
  have Hb1 := Lib.hid (below_trans Hba.out hb1)
  clear ho hb1
  go_wp2_with fail
  go_ret2
  exact ⟨rfl, Hb1.out⟩

set_option maxHeartbeats 4000000 in
set_option maxRecDepth 100000 in
theorem put6_ok (src dst : Int) (s : Seg) (AO : Option Addr) (nO cO : Nat) (oss : List OptV) (AD : Option Addr) (nD cD : Nat) (w : World) (hn : nO ≤ 140737488355328) (hd : nD ≤ 140737488355328) (h : SegRd w s AO nO cO oss AD nD cD) (h0 : errS s = 0) :
    Calls Tryz.prog 57 #[.int .u32 src, .int .u32 dst, .agg #[.int .u16 s.sp, .int .u16 s.dp, .int .u32 s.sq, .int .u32 s.ak, .int .u8 s.fl, .int .u16 s.wn, .int .u16 s.ug, .slice AO nO cO, .slice AD nD cD]] w (RowOk (lenB s) (segB src dst s) w) := by
  have hba : Below w.heap.size w (w.alloc (.cells #[.int .u16 s.sp, .int .u16 s.dp, .int .u32 s.sq, .int .u32 s.ak, .int .u8 s.fl, .int .u16 s.wn, .int .u16 s.ug, .slice AO nO cO, .slice AD nD cD] 29)) := (Below.refl _ _).alloc (Nat.le_refl _) _
  have Ho := Lib.hid (options_any s AO nO cO oss AD nD cD _ hn hd (h.below hba))
  have Hba := Lib.hid hba
  have H0 := Lib.hid h0
  have Hnum := Lib.hid h.num
  have Hd := Lib.hid (h.below hba).d
  have Hdc := Lib.hid h.dc
  have hblk := heap_alloc_new w (.cells #[.int .u16 s.sp, .int .u16 s.dp, .int .u32 s.sq, .int .u32 s.ak, .int .u8 s.fl, .int .u16 s.wn, .int .u16 s.ug, .slice AO nO cO, .slice AD nD cD] 29)
  have hby := h.os.byte
  have hlen : 40 ≥ (bytesO s.os).length ∧ lenB s ≤ 1480 ∧ s.os.any badB = false := by
    have := (errS_zero s).1 h0
    unfold mayT at this
    simp at this
    exact ⟨by omega, by omega, by simpa using this.1.1⟩
  have hyb : ∀ x ∈ optB s, 0 ≤ x ∧ x < 256 := padTo4_bytes_ (bytesO_bytes hby (fun l hl => (badB_false (by rw [List.any_eq_false] at hlen; simpa using hlen.2.2 l hl)).2))
  have hyl := padTo4_len (bytesO s.os)
  obtain ⟨Y, eY⟩ : ∃ Y, optB s = Y := ⟨_, rfl⟩
  obtain ⟨YN, eYN⟩ : ∃ YN, Y.length = YN := ⟨_, rfl⟩
  have hY4 : YN ≤ 40 ∧ YN % 4 = 0 := by
    have : (optB s).length = YN := by rw [eY, eYN]
    unfold optB at this
    omega
  have hlB : 20 + YN + nD ≤ 1480 := by
    have := hlen.2.1
    unfold lenB at this
    rw [eY, eYN, h.d.len] at this
    exact this
  have EY := Lib.hid eY
  have EYN := Lib.hid eYN
  rw [eY] at hyb
  have Hyb := Lib.hid hyb
  obtain ⟨z, hz⟩ : ∃ z, w.heap.size = z := ⟨_, rfl⟩
  rw [hz] at hblk
  have Hblk := Lib.hid hblk
  obtain ⟨hY40, hYd⟩ := hY4
  have HYd := Lib.hid hYd
  have hw1 : IntKind.i64.wrap (20 + (YN : Int)) = 20 + (YN : Int) := IntWalk.i64_in _ (by omega)
  have hw2 : IntKind.i64.wrap (20 + (YN : Int) + (nD : Int)) = 20 + (YN : Int) + (nD : Int) := IntWalk.i64_in _ (by omega)
  obtain ⟨q, eq⟩ : ∃ q, (20 + (YN : Int)) / 4 = q := ⟨_, rfl⟩
  have hq : 0 ≤ q ∧ q ≤ 15 := by omega
  have Eq := Lib.hid eq
  have Hq := Lib.hid (show 0 ≤ q * 16 ∧ q * 16 < 256 by omega)
  have hq8 : IntKind.u8.wrap q = q := wraps_u8 q (by omega) (by omega)
  have hq16 : IntKind.u8.wrap (q * 16) = q * 16 := wraps_u8 _ (by omega) (by omega)
  obtain ⟨hq0, hq1⟩ := hq
  clear h hba h0 hblk hby hlen hyb hyl eY eYN hYd
  obtain ⟨sp, dp, sq, ak, fl, wn, ug, os, d⟩ := s
  simp only at Ho Hba H0 Hnum Hd Hblk EY ⊢
  go_enter Tryz.func57, Tryz.ntmps57
  go_wp2_with fail
  refine Ho.out.mono ?_
  intro e w1 ho
  obtain ⟨A1, c1, rfl, ho1, hb1⟩ := options_good ho H0.out
  rw [EY.out, EYN.out] at ho1
  rw [EY.out, EYN.out]
  have Hb1 := Lib.hid (below_trans Hba.out hb1)
  have Hk1 := Lib.hid (blk_on Hblk.out hb1)
  have Ho1 := Lib.hid (ho1.mono (B' := w.heap.size) (by simp))
  have Hd1 := Lib.hid (Hd.out.below hb1)
  clear ho ho1 hb1
  go_wp2_with fail
  refine wp_region_held_drew (S := fun w' => w'.cell? ⟨z, 0, none⟩ = some (.int .u16 sp) ∧ w'.cell? ⟨z, 1, none⟩ = some (.int .u16 dp) ∧ w'.cell? ⟨z, 2, none⟩ = some (.int .u32 sq) ∧ w'.cell? ⟨z, 3, none⟩ = some (.int .u32 ak) ∧ w'.cell? ⟨z, 4, none⟩ = some (.int .u8 fl) ∧ w'.cell? ⟨z, 5, none⟩ = some (.int .u16 wn) ∧ w'.cell? ⟨z, 6, none⟩ = some (.int .u16 ug) ∧ w'.cell? ⟨z, 7, none⟩ = some (.slice AO nO cO) ∧ w'.cell? ⟨z, 8, none⟩ = some (.slice AD nD cD)) (by kernel_rfl) (seg_cells Hk1.out) (fun hHeld => ?_)
  have hdr : Below w1.heap.size w1 w1.drew := Below.drew (Below.refl _ _)
  have Hk1 := Lib.hid (blk_on Hk1.out hdr)
  have Ho1 := Lib.hid (Ho1.out.on hdr)
  have Hd1 := Lib.hid (Hd1.out.below hdr)
  have Hb1 := Lib.hid (below_trans Hb1.out hdr)
  clear hdr
  obtain ⟨wd, ewd⟩ : ∃ wd, w1.drew = wd := ⟨_, rfl⟩
  rw [ewd] at Hk1 Ho1 Hd1 Hb1 hHeld ⊢
  clear ewd
  refine tk 0 ?_ rfl ?_ ?_
  rotate_left
  · intro w' hSw; (go_simp <;> (with_reducible rfl))
  try simp only [Act.put, putL]
  refine tk 1 ?_ rfl ?_ ?_
  rotate_left
  · intro w' hSw; (go_simp <;> (with_reducible rfl))
  try simp only [Act.put, putL]
  refine tk 3 ?_ rfl ?_ ?_
  rotate_left
  · intro w' hSw; (go_simp <;> (with_reducible rfl))
  try simp only [Act.put, putL]
  refine tk 4 ?_ rfl ?_ ?_
  rotate_left
  · intro w' hSw; (go_simp <;> (with_reducible rfl))
  try simp only [Act.put, putL]
  refine tk 6 ?_ rfl ?_ ?_
  rotate_left
  · intro w' hSw; (go_simp <;> (with_reducible rfl))
  try simp only [Act.put, putL]
  refine tk 7 ?_ rfl ?_ ?_
  rotate_left
  · intro w' hSw; (go_simp <;> (with_reducible rfl))
  try simp only [Act.put, putL]
  refine tk 9 ?_ rfl ?_ ?_
  rotate_left
  · intro w' hSw; (go_simp <;> (with_reducible rfl))
  try simp only [Act.put, putL]
  refine tk 10 ?_ rfl ?_ ?_
  rotate_left
  · intro w' hSw; (go_simp <;> (with_reducible rfl))
  try simp only [Act.put, putL]
  refine tk 12 ?_ rfl ?_ ?_
  rotate_left
  · intro w' hSw; (go_simp <;> (with_reducible rfl))
  try simp only [Act.put, putL]
  refine tk 13 ?_ rfl ?_ ?_
  rotate_left
  · intro w' hSw; (go_simp <;> (with_reducible rfl))
  try simp only [Act.put, putL]
  refine tk 15 ?_ rfl ?_ ?_
  rotate_left
  · intro w' hSw; (go_simp <;> (with_reducible rfl))
  try simp only [Act.put, putL]
  refine tk 16 ?_ rfl ?_ ?_
  rotate_left
  · intro w' hSw; (go_simp <;> (with_reducible rfl))
  try simp only [Act.put, putL]
  refine tk 18 ?_ rfl ?_ ?_
  rotate_left
  · intro w' hSw; (go_simp <;> (with_reducible rfl))
  try simp only [Act.put, putL]
  refine tk 19 ?_ rfl ?_ ?_
  rotate_left
  · intro w' hSw; (go_simp <;> (with_reducible rfl))
  try simp only [Act.put, putL]
  refine tkC 2 rfl (fun K hK => ?_)
  go_simp
  (go_at_call 99; refine (u16_part sp _ Hnum.out.sp).mono ?_; rintro e w2 ⟨F2, C2, rfl, hp2, hb2⟩; have Hp2 := Lib.hid hp2; have Hk2 := Lib.hid (blk_on Hk1.out hb2); have Hb2 := Lib.hid hb2; clear hp2 hb2)
  refine hK.out _ _ ?_ (fun hHeld => ?_)
  · exact seg_cells Hk2.out
  clear hK K
  try simp only [Act.put, putL]
  refine tkC 5 rfl (fun K hK => ?_)
  go_simp
  (go_at_call 99; refine (u16_part dp _ Hnum.out.dp).mono ?_; rintro e w3 ⟨F3, C3, rfl, hp3, hb3⟩; have Hp3 := Lib.hid hp3; have Hk3 := Lib.hid (blk_on Hk2.out hb3); have Hb3 := Lib.hid hb3; clear hp3 hb3)
  refine hK.out _ _ ?_ (fun hHeld => ?_)
  · exact seg_cells Hk3.out
  clear hK K
  try simp only [Act.put, putL]
  refine tkC 8 rfl (fun K hK => ?_)
  go_simp
  (go_at_call 100; refine (u32_part sq _ Hnum.out.sq).mono ?_; rintro e w4 ⟨F4, C4, rfl, hp4, hb4⟩; have Hp4 := Lib.hid hp4; have Hk4 := Lib.hid (blk_on Hk3.out hb4); have Hb4 := Lib.hid hb4; clear hp4 hb4)
  refine hK.out _ _ ?_ (fun hHeld => ?_)
  · exact seg_cells Hk4.out
  clear hK K
  try simp only [Act.put, putL]
  refine tkC 11 rfl (fun K hK => ?_)
  go_simp
  (go_at_call 100; refine (u32_part ak _ Hnum.out.ak).mono ?_; rintro e w5 ⟨F5, C5, rfl, hp5, hb5⟩; have Hp5 := Lib.hid hp5; have Hk5 := Lib.hid (blk_on Hk4.out hb5); have Hb5 := Lib.hid hb5; clear hp5 hb5)
  refine hK.out _ _ ?_ (fun hHeld => ?_)
  · exact seg_cells Hk5.out
  clear hK K
  try simp only [Act.put, putL]
  refine tkC 14 rfl (fun K hK => ?_)
  go_simp
  (go_at_call 101; refine (u8_part (q * 16) _ Hq.out).mono ?_; rintro e w6 ⟨F6, C6, rfl, hp6, hb6⟩; have Hp6 := Lib.hid hp6; have Hk6 := Lib.hid (blk_on Hk5.out hb6); have Hb6 := Lib.hid hb6; clear hp6 hb6)
  refine hK.out _ _ ?_ (fun hHeld => ?_)
  · exact seg_cells Hk6.out
  clear hK K
  try simp only [Act.put, putL]
  refine tkC 17 rfl (fun K hK => ?_)
  go_simp
  (go_at_call 101; refine (u8_part fl _ Hnum.out.fl).mono ?_; rintro e w7 ⟨F7, C7, rfl, hp7, hb7⟩; have Hp7 := Lib.hid hp7; have Hk7 := Lib.hid (blk_on Hk6.out hb7); have Hb7 := Lib.hid hb7; clear hp7 hb7)
  refine hK.out _ _ ?_ (fun hHeld => ?_)
  · exact seg_cells Hk7.out
  clear hK K
  try simp only [Act.put, putL]
  refine tkC 20 rfl (fun K hK => ?_)
  go_simp
  (go_at_call 99; refine (u16_part wn _ Hnum.out.wn).mono ?_; rintro e w8 ⟨F8, C8, rfl, hp8, hb8⟩; have Hp8 := Lib.hid hp8; have Hk8 := Lib.hid (blk_on Hk7.out hb8); have Hb8 := Lib.hid hb8; clear hp8 hb8)
  refine hK.out _ _ ?_ (fun hHeld => ?_)
  · exact seg_cells Hk8.out
  clear hK K
  try simp only [Act.put, putL]
  refine tkC 21 rfl (fun K hK => ?_)
  go_simp
  skip
  refine hK.out _ _ ?_ (fun hHeld => ?_)
  · exact seg_cells (blk_on Hk8.out ((Below.refl _ _).alloc (Nat.le_refl _) _))
  clear hK K
  try simp only [Act.put, putL]
  refine tkC 22 rfl (fun K hK => ?_)
  go_simp
  (go_at_call 98; refine (parts_any _ 7 7 16 [be16 sp, be16 dp, be32 sq, be32 ak, [q * 16], [fl], be16 wn] _ (by omega) (RdP.seven w8 _ rfl _ _ F2 F3 F4 F5 F6 F7 F8 C2 C3 C4 C5 C6 C7 C8 _ _ _ _ _ _ _ (Hp2.out.on (below_trans Hb3.out (below_trans Hb4.out (below_trans Hb5.out (below_trans Hb6.out (below_trans Hb7.out Hb8.out)))))) (Hp3.out.on (below_trans Hb4.out (below_trans Hb5.out (below_trans Hb6.out (below_trans Hb7.out Hb8.out))))) (Hp4.out.on (below_trans Hb5.out (below_trans Hb6.out (below_trans Hb7.out Hb8.out)))) (Hp5.out.on (below_trans Hb6.out (below_trans Hb7.out Hb8.out))) (Hp6.out.on (below_trans Hb7.out Hb8.out)) (Hp7.out.on Hb8.out) Hp8.out) rfl (by omega)).mono ?_; rintro e w9 ⟨A9, c9, rfl, k9, m9, ho9, hb9⟩; have Hbb9 := Lib.hid (below_alloc hb9); have Ho9 := Lib.hid ho9; have Hk9 := Lib.hid (blk_on Hk8.out Hbb9.out); clear hb9 ho9)
  refine hK.out _ _ ?_ (fun hHeld => ?_)
  · exact seg_cells Hk9.out
  clear hK K
  try simp only [Act.put, putL]
  refine tk 23 ?_ rfl ?_ ?_
  rotate_left
  · intro w' hSw; (go_simp <;> (with_reducible rfl))
  try simp only [Act.put, putL]
  refine wpAnyH_done (by kernel_rfl) ?_ _
  have Hl9 := Lib.hid (show ([be16 sp, be16 dp, be32 sq, be32 ak, [q * 16], [fl], be16 wn] : List (List Int)).flatten = aheadT ⟨sp, dp, sq, ak, fl, wn, ug, os, d⟩ (q * 16) by simp [aheadT])
  have Hah := Lib.hid (aheadT_bytes (off := q * 16) Hnum.out Hq.out)
  rw [Hl9.out] at Ho9
  have Hr9 := Lib.hid (Ho9.out.rd Hah.out)
  have Hc9 := Lib.hid (And.intro k9 m9)
  have Hbw := Lib.hid (below_trans Hb2.out (below_trans Hb3.out (below_trans Hb4.out (below_trans Hb5.out (below_trans Hb6.out (below_trans Hb7.out (below_trans Hb8.out Hbb9.out)))))))
  have Hr1 := Lib.hid ((Ho1.out.rd Hyb.out).below Hbw.out)
  have Hc1 := Lib.hid (And.intro Ho1.out.cap Ho1.out.capMax)
  have Hd9 := Lib.hid (Hd1.out.below Hbw.out)
  have Hb9 := Lib.hid (below_trans Hb1.out Hbw.out)
  clear Hp2 Hp3 Hp4 Hp5 Hp6 Hp7 Hp8 Hk1 Hk2 Hk3 Hk4 Hk5 Hk6 Hk7 Hk8 Hb2 Hb3 Hb4 Hb5 Hb6 Hb7 Hb8 Hbb9 Hl9 Ho9 Ho1 Hd1 Hb1 Hbw k9 m9 hHeld
  go_wp2_with fail
  have Hfl := Lib.hid (show ([be16 ug, Y, d] : List (List Int)).flatten.length = 2 + YN + nD by have := EYN.out; have := Hd9.out.len; simp [be16]; omega)
  refine wp_region_held_drew (S := fun w' => w'.cell? ⟨z, 0, none⟩ = some (.int .u16 sp) ∧ w'.cell? ⟨z, 1, none⟩ = some (.int .u16 dp) ∧ w'.cell? ⟨z, 2, none⟩ = some (.int .u32 sq) ∧ w'.cell? ⟨z, 3, none⟩ = some (.int .u32 ak) ∧ w'.cell? ⟨z, 4, none⟩ = some (.int .u8 fl) ∧ w'.cell? ⟨z, 5, none⟩ = some (.int .u16 wn) ∧ w'.cell? ⟨z, 6, none⟩ = some (.int .u16 ug) ∧ w'.cell? ⟨z, 7, none⟩ = some (.slice AO nO cO) ∧ w'.cell? ⟨z, 8, none⟩ = some (.slice AD nD cD)) (by kernel_rfl) (seg_cells Hk9.out) (fun hHeld => ?_)
  have hdr : Below w9.heap.size w9 w9.drew := Below.drew (Below.refl _ _)
  have HkD := Lib.hid (blk_on Hk9.out hdr)
  have Hr9 := Lib.hid (Hr9.out.below hdr)
  have Hr1 := Lib.hid (Hr1.out.below hdr)
  have Hd9 := Lib.hid (Hd9.out.below hdr)
  have Hb9 := Lib.hid (below_trans Hb9.out hdr)
  clear hdr
  obtain ⟨wd, ewd⟩ : ∃ wd, w9.drew = wd := ⟨_, rfl⟩
  rw [ewd] at HkD Hr9 Hr1 Hd9 Hb9 hHeld ⊢
  clear ewd
  refine tk 0 ?_ rfl ?_ ?_
  rotate_left
  · intro w' hSw; (go_simp <;> (with_reducible rfl))
  try simp only [Act.put, putL]
  refine tk 1 ?_ rfl ?_ ?_
  rotate_left
  · intro w' hSw; (go_simp <;> (with_reducible rfl))
  try simp only [Act.put, putL]
  refine tk 3 ?_ rfl ?_ ?_
  rotate_left
  · intro w' hSw; (go_simp <;> (with_reducible rfl))
  try simp only [Act.put, putL]
  refine tk 5 ?_ rfl ?_ ?_
  rotate_left
  · intro w' hSw; (go_simp <;> (with_reducible rfl))
  try simp only [Act.put, putL]
  refine tk 6 ?_ rfl ?_ ?_
  rotate_left
  · intro w' hSw; (go_simp <;> (with_reducible rfl))
  try simp only [Act.put, putL]
  refine tkC 2 rfl (fun K hK => ?_)
  go_simp
  (go_at_call 99; refine (u16_part ug _ Hnum.out.ug).mono ?_; rintro e w2 ⟨F2, C2, rfl, hp2, hb2⟩; have Hp2 := Lib.hid hp2; have Hk2 := Lib.hid (blk_on HkD.out hb2); have Hb2 := Lib.hid hb2; clear hp2 hb2)
  refine hK.out _ _ ?_ (fun hHeld => ?_)
  · exact seg_cells Hk2.out
  clear hK K
  try simp only [Act.put, putL]
  refine tkC 4 rfl (fun K hK => ?_)
  go_simp
  (go_at_call 103; refine (row_part A1 YN c1 Y _ (Hr1.out.below Hb2.out)).mono ?_; rintro e w3 ⟨F3, C3, rfl, hp3, hb3⟩; have Hp3 := Lib.hid hp3; have Hk3 := Lib.hid (blk_on Hk2.out hb3); have Hb3 := Lib.hid hb3; clear hp3 hb3)
  refine hK.out _ _ ?_ (fun hHeld => ?_)
  · exact seg_cells Hk3.out
  clear hK K
  try simp only [Act.put, putL]
  refine tkC 7 rfl (fun K hK => ?_)
  go_simp
  (go_at_call 103; refine (row_part AD nD cD d _ ((Hd9.out.below Hb2.out).below Hb3.out)).mono ?_; rintro e w4 ⟨F4, C4, rfl, hp4, hb4⟩; have Hp4 := Lib.hid hp4; have Hk4 := Lib.hid (blk_on Hk3.out hb4); have Hb4 := Lib.hid hb4; clear hp4 hb4)
  refine hK.out _ _ ?_ (fun hHeld => ?_)
  · exact seg_cells Hk4.out
  clear hK K
  try simp only [Act.put, putL]
  refine tkC 8 rfl (fun K hK => ?_)
  go_simp
  skip
  refine hK.out _ _ ?_ (fun hHeld => ?_)
  · exact seg_cells (blk_on Hk4.out ((Below.refl _ _).alloc (Nat.le_refl _) _))
  clear hK K
  try simp only [Act.put, putL]
  refine tkC 9 rfl (fun K hK => ?_)
  go_simp
  (go_at_call 98; refine (parts_any _ 3 3 (2 + YN + nD) [be16 ug, Y, d] _ (by omega) (RdP.three w4 _ rfl _ _ F2 F3 F4 C2 C3 C4 _ _ _ (Hp2.out.on (below_trans Hb3.out Hb4.out)) (Hp3.out.on Hb4.out) Hp4.out) Hfl.out (by omega)).mono ?_; rintro e w5 ⟨A5, c5, rfl, k5, m5, ho5, hb5⟩; have Hbb5 := Lib.hid (below_alloc hb5); have Ho5 := Lib.hid ho5; have Hk5 := Lib.hid (blk_on Hk4.out Hbb5.out); clear hb5 ho5)
  refine hK.out _ _ ?_ (fun hHeld => ?_)
  · exact seg_cells Hk5.out
  clear hK K
  try simp only [Act.put, putL]
  refine tk 10 ?_ rfl ?_ ?_
  rotate_left
  · intro w' hSw; (go_simp <;> (with_reducible rfl))
  try simp only [Act.put, putL]
  refine wpAnyH_done (by kernel_rfl) ?_ _
  have Hby5 := Lib.hid (show ∀ x ∈ be16 ug ++ (Y ++ d), 0 ≤ x ∧ x < 256 by
    intro x hx
    rcases List.mem_append.1 hx with h1 | h1
    · have := Hnum.out.ug; simp [be16] at h1; simp only at this; omega
    · rcases List.mem_append.1 h1 with h2 | h2
      · exact Hyb.out x h2
      · exact Hd9.out.byte x h2)
  have e5 : ([be16 ug, Y, d] : List (List Int)).flatten = be16 ug ++ (Y ++ d) := by simp
  rw [e5] at Ho5 Hfl
  have Hr5 := Lib.hid (Ho5.out.rd Hby5.out)
  have Hc5 := Lib.hid (And.intro k5 m5)
  have Hbw := Lib.hid (below_trans Hb2.out (below_trans Hb3.out (below_trans Hb4.out Hbb5.out)))
  have Hr9 := Lib.hid (Hr9.out.below Hbw.out)
  have Hb5 := Lib.hid (below_trans Hb9.out Hbw.out)
  have hc8 := blk_cell Hk5.out 8
  clear e5 Hp2 Hp3 Hp4 HkD Hk2 Hk3 Hk4 Hb2 Hb3 Hb4 Hbb5 Ho5 Hr1 Hbw k5 m5 hHeld
  go_wp2_with fail
  refine (pseudo_any src dst 6 (20 + (YN : Int) + (nD : Int)) _ (by omega)).mono ?_
  rintro e w6 ⟨A6, c6, rfl, k6, m6, ho6, hb6⟩
  have Hr6 := Lib.hid (ho6.rd (pseudo_byte _ _ _ _ (by omega)))
  have Hr9 := Lib.hid (Hr9.out.below hb6)
  have Hr5 := Lib.hid (Hr5.out.below hb6)
  have Hb6 := Lib.hid (below_trans Hb5.out hb6)
  have Hc6 := Lib.hid (And.intro k6 m6)
  clear ho6 hb6 k6 m6 hc8
  go_wp2_with fail
  have Eoff := Lib.hid (show offS ⟨sp, dp, sq, ak, fl, wn, ug, os, d⟩ = q * 16 by unfold offS; rw [EY.out, EYN.out, Eq.out])
  have EL := Lib.hid (show lenB ⟨sp, dp, sq, ak, fl, wn, ug, os, d⟩ = 20 + YN + nD by unfold lenB; rw [EY.out, EYN.out]; have := Hd9.out.len; simp only; omega)
  have Hfd := Lib.hid (fieldS_of Hnum.out src dst (20 + (YN : Int) + (nD : Int)) (by rw [EL.out]; omega))
  have Hfb := Lib.hid (fieldS_bd src dst ⟨sp, dp, sq, ak, fl, wn, ug, os, d⟩)
  have Hsb := Lib.hid (segB_parts Hnum.out src dst)
  rw [Eoff.out, EY.out] at Hfd Hsb
  obtain ⟨fd, efd⟩ : ∃ fd, fieldS src dst ⟨sp, dp, sq, ak, fl, wn, ug, os, d⟩ = fd := ⟨_, rfl⟩
  rw [efd] at Hfd Hfb Hsb
  obtain ⟨LA, eLA⟩ : ∃ LA, aheadT ⟨sp, dp, sq, ak, fl, wn, ug, os, d⟩ (q * 16) = LA := ⟨_, rfl⟩
  rw [eLA] at Hfd Hsb Hr9
  obtain ⟨LB, eLB⟩ : ∃ LB, be16 ug ++ (Y ++ d) = LB := ⟨_, rfl⟩
  simp only [eLB] at Hfd Hsb Hr5 Hfl
  clear efd eLA eLB
  refine (field_told _ 3 3 [pseudoL src dst 6 (20 + (YN : Int) + (nD : Int)), LA, LB] _ fd (by omega) (RdL.threeW w6 _ A6 A9 A5 12 c6 16 c9 (2 + YN + nD) c5 _ _ _ Hc6.out Hc9.out Hc5.out Hr6.out Hr9.out Hr5.out) Hfd.out.symm).mono ?_
  rintro e w7 ⟨rfl, hb7⟩
  have hb7' := below_alloc hb7
  have Hr9 := Lib.hid (Hr9.out.below hb7')
  have Hr5 := Lib.hid (Hr5.out.below hb7')
  have Hb7 := Lib.hid (below_trans Hb6.out hb7')
  clear hb7 hb7' Hr6
  go_wp2_with fail
  refine (row_part A9 16 c9 LA _ Hr9.out).mono ?_
  rintro e w8 ⟨F1, C1, rfl, hp1, hb8⟩
  have Hp1 := Lib.hid hp1
  have Hr5 := Lib.hid (Hr5.out.below hb8)
  have Hb8 := Lib.hid (below_trans Hb7.out hb8)
  clear hp1 hb8
  go_wp2_with fail
  refine (u16_part fd _ Hfb.out).mono ?_
  rintro e w9 ⟨F2, C2, rfl, hp2, hb9⟩
  have Hp2 := Lib.hid hp2
  have Hp1 := Lib.hid (Hp1.out.on hb9)
  have Hr5 := Lib.hid (Hr5.out.below hb9)
  have Hb9 := Lib.hid (below_trans Hb8.out hb9)
  clear hp2 hb9
  go_wp2_with fail
  refine (row_part A5 (2 + YN + nD) c5 LB _ Hr5.out).mono ?_
  rintro e w10 ⟨F3, C3, rfl, hp3, hb10⟩
  have Hp3 := Lib.hid hp3
  have Hp1 := Lib.hid (Hp1.out.on hb10)
  have Hp2 := Lib.hid (Hp2.out.on hb10)
  have Hb10 := Lib.hid (below_trans Hb9.out hb10)
  have HlA := Lib.hid Hr9.out.len
  clear hp3 hb10
  go_wp2_with fail
  refine (parts_any _ 3 3 (20 + YN + nD) [LA, be16 fd, LB] _ (by omega) (RdP.three w10 _ rfl _ _ F1 F2 F3 C1 C2 C3 _ _ _ Hp1.out Hp2.out Hp3.out) (by have := HlA.out; have := Hfl.out; simp [be16]; omega) (by omega)).mono ?_
  rintro e w11 ⟨A11, c11, rfl, k11, m11, ho11, hb11⟩
  have Hbz := Lib.hid (below_trans Hb10.out (below_alloc hb11))
  have Ho11 := Lib.hid (ho11.mono (B' := w.heap.size) (by have := Hb10.out.size; simp; omega))
  rw [← Hsb.out] at Ho11
  clear ho11 hb11
  go_wp2_with fail
  go_ret2
  rw [EL.out]
  exact ⟨A11, c11, rfl, k11, m11, Ho11.out, Hbz.out⟩

/-- Put tells what the document's own Put tells. -/
theorem put6_any (src dst : Int) (s : Seg) (AO : Option Addr) (nO cO : Nat) (oss : List OptV) (AD : Option Addr) (nD cD : Nat) (w : World) (hn : nO ≤ 140737488355328) (hd : nD ≤ 140737488355328) (h : SegRd w s AO nO cO oss AD nD cD) :
    Calls Tryz.prog 57 #[.int .u32 src, .int .u32 dst, .agg #[.int .u16 s.sp, .int .u16 s.dp, .int .u32 s.sq, .int .u32 s.ak, .int .u8 s.fl, .int .u16 s.wn, .int .u16 s.ug, .slice AO nO cO, .slice AD nD cD]] w (fun e w' => if errS s = 0 then RowOk (lenB s) (segB src dst s) w e w' else PutErrIs (errS s) w e w') := by
  by_cases h0 : errS s = 0
  · refine (put6_ok src dst s AO nO cO oss AD nD cD w hn hd h h0).mono fun e w' hh => ?_
    rw [if_pos h0]; exact hh
  · refine (put6_bad src dst s AO nO cO oss AD nD cD w hn hd h h0).mono fun e w' hh => ?_
    rw [if_neg h0]; exact hh
end Go.Proofs.YtoegfgbalcholaaGreat

/-
  The contract of package ipv4's ask: it gives up with the error of the first fault that is there, or does nothing.
-/
namespace Go.Proofs.YtoegfgbalcholaaGreat
set_option maxRecDepth 10000
open Go.RowKit

/-- The slice of faults holds l. -/
structure RdF (w : World) (A : Option Addr) (n : Nat) (l : List (Bool × Int)) : Prop where
  len : l.length = n
  at_ : 0 < n → ∃ b, A = some ⟨b, 0, none⟩ ∧ b < w.heap.size ∧ ∀ i, i < n → w.cell? ⟨b, i * 2, none⟩ = some (.bool (l.getD i (false, 0)).1) ∧ w.cell? ⟨b, i * 2 + 1, none⟩ = some (.int .i64 (l.getD i (false, 0)).2)
/-- Faults that the walk has just laid. -/
theorem RdF.one (w : World) (g : Nat) (hg : w.heap.size = g) (t : TypeId) (fr : Nat × Nat) (x : Bool) (e : Int) : RdF (w.alloc (.cells #[.bool x, .int .i64 e] t fr)) (some ⟨g, 0, none⟩) 1 [(x, e)] := by
  subst hg
  refine ⟨rfl, fun _ => ⟨w.heap.size, rfl, by simp, fun i hi => ?_⟩⟩
  obtain rfl : i = 0 := by omega
  simp only [World.cell?_alloc_mark]
  simp
theorem RdF.seven (w : World) (g : Nat) (hg : w.heap.size = g) (t : TypeId) (fr : Nat × Nat) (x1 x2 x3 x4 x5 x6 x7 : Bool) (e1 e2 e3 e4 e5 e6 e7 : Int) :
    RdF (w.alloc (.cells #[.bool x1, .int .i64 e1, .bool x2, .int .i64 e2, .bool x3, .int .i64 e3, .bool x4, .int .i64 e4, .bool x5, .int .i64 e5, .bool x6, .int .i64 e6, .bool x7, .int .i64 e7] t fr)) (some ⟨g, 0, none⟩) 7
      [(x1, e1), (x2, e2), (x3, e3), (x4, e4), (x5, e5), (x6, e6), (x7, e7)] := by
  subst hg
  refine ⟨rfl, fun _ => ⟨w.heap.size, rfl, by simp, fun i hi => ?_⟩⟩
  simp only [World.cell?_alloc_mark]
  match i, hi with
  | 0, _ => simp
  | 1, _ => simp
  | 2, _ => simp
  | 3, _ => simp
  | 4, _ => simp
  | 5, _ => simp
  | 6, _ => simp
theorem RdF.below {w w' : World} {A : Option Addr} {n : Nat} {l : List (Bool × Int)} (h : RdF w A n l) (hb : Below w.heap.size w w') : RdF w' A n l :=
  ⟨h.len, fun hn => by
    obtain ⟨b, e, hlt, hc⟩ := h.at_ hn
    exact ⟨b, e, Nat.lt_of_lt_of_le hlt hb.size, fun i hi => ⟨by rw [hb.cell (p := ⟨b, i * 2, none⟩) hlt]; exact (hc i hi).1, by rw [hb.cell (p := ⟨b, i * 2 + 1, none⟩) hlt]; exact (hc i hi).2⟩⟩⟩
theorem RdF.index {w : World} {A : Option Addr} {n c : Nat} {l : List (Bool × Int)} (h : RdF w A n l) {j : Nat} (hj : j < n) :
    ∃ b, (∀ W : World, (Instr.indexAt 130 (.slice A n c) (.int .i64 (j : Int))).run Tryz.prog W = .ok (.pointer (some ⟨b, j * 2, none⟩)) W) ∧ b < w.heap.size ∧ w.cell? ⟨b, j * 2, none⟩ = some (.bool (l.getD j (false, 0)).1) ∧ w.cell? ⟨b, j * 2 + 1, none⟩ = some (.int .i64 (l.getD j (false, 0)).2) := by
  obtain ⟨b, rfl, hb, hc⟩ := h.at_ (by omega)
  have h0 : (0 : Int) ≤ (j : Int) := by omega
  have h1 : (j : Int) < (n : Int) := by omega
  exact ⟨b, fun W => by go_simp, hb, (hc j hj).1, (hc j hj).2⟩

def AskIs (g : Nat) (x : Int) (w : World) (e : Ending) (w' : World) : Prop := (x = 0 ∧ e = .returned (.tuple #[]) ∧ Below w.heap.size w w') ∨ (x ≠ 0 ∧ GivesUp g x w e w')

/-- Where the first is. -/
theorem askE_first : ∀ (l : List (Bool × Int)), (∀ p ∈ l, p.2 ≠ 0) → ∃ k, k ≤ l.length ∧ (∀ i, i < k → (l.getD i (false, 0)).1 = false) ∧ ((k = l.length ∧ askE l = 0) ∨ (k < l.length ∧ askE l ≠ 0 ∧ (l.getD k (false, 0)).1 = true ∧ (l.getD k (false, 0)).2 = askE l))
  | [], _ => ⟨0, Nat.le_refl _, fun _ h => by omega, .inl ⟨rfl, rfl⟩⟩
  | (true, e) :: l, h => ⟨0, by simp, fun _ h => by omega, .inr ⟨by simp, by simpa [askE] using h (true, e) (by simp), by simp, by simp [askE]⟩⟩
  | (false, e) :: l, h => by
    obtain ⟨k, h1, h2, h3⟩ := askE_first l (fun p hp => h p (by simp [hp]))
    refine ⟨k + 1, by simp; omega, fun i hi => ?_, ?_⟩
    · cases i with
      | zero => simp
      | succ i => simpa using h2 i (by omega)
    · rcases h3 with ⟨h3, h4⟩ | ⟨h3, h4, h5, h6⟩
      · exact .inl ⟨by simp [h3], by simpa [askE] using h4⟩
      · exact .inr ⟨by simp; omega, by simpa [askE] using h4, by simpa using h5, by simpa [askE] using h6⟩

theorem ask_any (B g : Nat) (A : Option Addr) (n c : Nat) (fs : List (Bool × Int)) (l : List Int) (at_ : Int) (w : World) (hn : n ≤ 1000) (hf : RdF w A n fs) (hne : ∀ p ∈ fs, p.2 ≠ 0) (h : Rdr w B g l at_) :
    Calls Tryz.prog 69 #[.pointer (some ⟨g, 0, none⟩), .slice A n c] w (AskIs g (askE fs) w) := by
  obtain ⟨k, hk, hpre, hend⟩ := askE_first fs hne
  rw [hf.len] at hk hend
  have Hpre := Lib.hid hpre
  have Hend := Lib.hid hend
  clear hpre hend
  have Hr := Lib.hid h
  have Hf := Lib.hid hf
  clear hne h hf
  go_enter Tryz.func69, Tryz.ntmps69
  go_wp2_with fail
  go_loopg [8] n (fun gk i wr => ∃ j : Nat, Hid (gk + j = n) ∧ j ≤ k ∧ i = .int .i64 (j : Int) ∧ Below w.heap.size w wr)
  case atStart => exact ⟨0, rfl, Nat.zero_le _, rfl, Below.refl _ _⟩
  case round =>
    obtain ⟨j, hgk, hj, rfl, hb⟩ := hrel
    by_cases hjn : j < n
    · obtain ⟨b, hrun, hbl, hc1, hc2⟩ := (Hf.out.below hb).index (c := c) hjn
      by_cases hjk : j < k
      · have hfa := Hpre.out j hjk
        rw [hfa] at hc1
        obtain ⟨y, ey⟩ : ∃ y, (fs.getD j (false, 0)).2 = y := ⟨_, rfl⟩
        rw [ey] at hc2
        clear ey hfa
        go_wp2_with fail
        go_roundg (gk - 1)
        case measure => have := hgk.out; omega
        case rel => exact ⟨j + 1, by have := hgk.out; show gk - 1 + (j + 1) = _; omega, by omega, by go_num, hb.alloc hb.size _⟩
      · obtain rfl : j = k := by omega
        rcases Hend.out with ⟨h1, h2⟩ | ⟨h1, h2, h3, h4⟩
        · omega
        rw [h3] at hc1
        rw [h4] at hc2
        obtain ⟨x, ex⟩ : ∃ x, askE fs = x := ⟨_, rfl⟩
        rw [ex] at hc2 h2 ⊢
        clear h3 h4 ex
        have Hb := Lib.hid hb
        go_wp2_with fail
        have Hba := hb.alloc hb.size (.cells #[.bool true, .int .i64 x] 129)
        refine (fail_any B g x l at_ _ h2 (Hr.out.below Hba)).mono ?_
        rintro e w' ⟨rfl, h⟩
        exact ⟨rfl, .inr ⟨h2, rfl, h.1, But.trans (But.of Hba) h.2⟩⟩
    · obtain rfl : j = n := by omega
      rcases Hend.out with ⟨h1, h2⟩ | ⟨h1, _⟩
      · have H2 := Lib.hid h2
        clear h1 h2
        go_wp2_with fail
        go_end0
        exact .inl ⟨H2.out, rfl, hb⟩
      · omega
end Go.Proofs.YtoegfgbalcholaaGreat
