/-
  The document's own answers for datagrams (culvertref07): laid, Pseudo, Put.
-/
import Derived.Test.YtoblllgefmajiaaUdpPut
import Derived.Test.YtoblllgefmajiaaRef03
import Derived.Deep.CutRange
import Derived.Laws.BitsLemmas
namespace Go.Proofs.Ytoblllgefmajiaa
set_option maxRecDepth 10000
open Go.RowKit

theorem beU2_bytes (x : Int) : ∀ y ∈ beU2 x, 0 ≤ y ∧ y < 256 := by intro y hy; simp [beU2] at hy; omega
theorem beU4_bytes (x : Int) : ∀ y ∈ beU4 x, 0 ≤ y ∧ y < 256 := by intro y hy; simp [beU4] at hy; omega
theorem beU2_be16 {x : Int} (h : 0 ≤ x ∧ x < 65536) : beU2 x = be16 x := by unfold beU2 be16; rw [show x / 256 % 256 = x / 256 by omega]

/-- A row that the call has made so far. -/
structure RowSo (w wr : World) (A : Option Addr) (m c : Nat) (l : List Int) : Prop where
  own : OwnB wr w.heap.size A m c l
  byte : ∀ x ∈ l, 0 ≤ x ∧ x < 256
  old : Below w.heap.size w wr
theorem RowSo.next {w wr w' : World} {A A' : Option Addr} {m c m' c' : Nat} {l l' : List Int} (h : RowSo w wr A m c l) (ho : OwnB w' wr.heap.size A' m' c' l') (hl : ∀ x ∈ l', 0 ≤ x ∧ x < 256) (hb : Below wr.heap.size wr w') : RowSo w w' A' m' c' l' :=
  ⟨ho.mono h.old.size, hl, below_trans h.old hb⟩
theorem app_bytes {a b : List Int} (h : ∀ x ∈ a, 0 ≤ x ∧ x < 256) (k : ∀ x ∈ b, 0 ≤ x ∧ x < 256) : ∀ x ∈ a ++ b, 0 ≤ x ∧ x < 256 := fun x hx => by
  rcases List.mem_append.1 hx with h1 | h1
  · exact h x h1
  · exact k x h1

theorem rlaid_any (s : Dg) (A : Option Addr) (n c : Nat) (f : Int) (w : World) (hnum : DgNum s) (hf : 0 ≤ f ∧ f < 65536) (hr : Rd w A n s.d) (hn : n ≤ 1472) :
    Calls Try.prog 76 #[.agg #[.int .u16 s.sp, .int .u16 s.dp, .slice A n c], .int .u16 f] w (RowIs (8 + n) (hdU s ++ (be16 f ++ s.d)) w) := by
  obtain ⟨sp, dp, d⟩ := s
  simp only at hr ⊢
  obtain ⟨z, hz⟩ : ∃ z, w.heap.size = z := ⟨_, rfl⟩
  have hk := heap_alloc_new w (.cells #[.int .u16 sp, .int .u16 dp, .slice A n c] 57)
  have hba := (Below.refl w.heap.size w).alloc (Nat.le_refl _) (.cells #[.int .u16 sp, .int .u16 dp, .slice A n c] 57)
  rw [hz] at hk
  obtain ⟨w0, ew⟩ : ∃ w0, w.alloc (.cells #[.int .u16 sp, .int .u16 dp, .slice A n c] 57) = w0 := ⟨_, rfl⟩
  rw [ew] at hk hba
  have HK := Lib.hid (show ∀ w', Below w0.heap.size w0 w' → (w'.cell? ⟨z, 0, none⟩ = some (.int .u16 sp) ∧ w'.cell? ⟨z, 1, none⟩ = some (.int .u16 dp) ∧ w'.cell? ⟨z, 2, none⟩ = some (.slice A n c)) ∧ Rd w' A n d from fun w' hb => ⟨cells3 (blk_on hk hb), (hr.below hba).below hb⟩)
  have Hba := Lib.hid hba
  have Hld := Lib.hid hr.len
  have Hdb := Lib.hid hr.byte
  have Hnum := Lib.hid hnum
  have Hf := Lib.hid hf
  have Hew := Lib.hid ew
  have hu1 : IntKind.u32.wrap (8 + (n : Int)) = 8 + (n : Int) := by simp [IntKind.wrap, IntKind.bits, IntKind.signed]; omega
  have s0 := Hnum.out.sp.1
  have s1 := Hnum.out.sp.2
  have d0 := Hnum.out.dp.1
  have d1 := Hnum.out.dp.2
  have f0 := hf.1
  have f1 := hf.2
  simp only at s0 s1 d0 d1
  have hni : (n : Int) ≤ 1472 := by omega
  obtain ⟨⟨q0, q1, q2⟩, _⟩ := HK.out w0 (Below.refl _ _)
  clear hk hba hr hnum hf ew
  go_enter Try.func76, Try.ntmps76
  go_wp2_with fail
  rw [Hew.out]
  refine (lay2_any none 0 0 [] sp _ (by omega) (Rd.nil _ _)).mono ?_
  rintro e w1 ⟨A1, c1, rfl, -, -, ho1, hb1⟩
  have Hs := Lib.hid (RowSo.mk ho1 (by simpa using beU2_bytes sp) hb1 : RowSo w0 w1 A1 (0 + 2) c1 ([] ++ beU2 sp))
  clear ho1 hb1 q0 q1 q2
  obtain ⟨⟨q0, q1, q2⟩, _⟩ := HK.out _ Hs.out.old
  go_wp2_with fail
  refine (lay2_any A1 (0 + 2) c1 ([] ++ beU2 sp) (dp) _ (by omega) (Hs.out.own.rd Hs.out.byte)).mono ?_
  rintro e w2 ⟨A2, c2, rfl, -, -, ho2, hb2⟩
  have Hs := Lib.hid (Hs.out.next ho2 (app_bytes Hs.out.byte (beU2_bytes (dp))) hb2)
  clear ho2 hb2 q0 q1 q2
  obtain ⟨⟨q0, q1, q2⟩, _⟩ := HK.out _ Hs.out.old
  go_wp2_with fail
  refine (lay2_any A2 (0 + 2 + 2) c2 (([] ++ beU2 sp) ++ beU2 dp) (8 + (n : Int)) _ (by omega) (Hs.out.own.rd Hs.out.byte)).mono ?_
  rintro e w3 ⟨A3, c3, rfl, -, -, ho3, hb3⟩
  have Hs := Lib.hid (Hs.out.next ho3 (app_bytes Hs.out.byte (beU2_bytes (8 + (n : Int)))) hb3)
  clear ho3 hb3 q0 q1 q2
  obtain ⟨⟨q0, q1, q2⟩, _⟩ := HK.out _ Hs.out.old
  go_wp2_with fail
  refine (lay2_any A3 (0 + 2 + 2 + 2) c3 ((([] ++ beU2 sp) ++ beU2 dp) ++ beU2 (8 + (n : Int))) (f) _ (by omega) (Hs.out.own.rd Hs.out.byte)).mono ?_
  rintro e w4 ⟨A4, c4, rfl, -, -, ho4, hb4⟩
  have Hs := Lib.hid (Hs.out.next ho4 (app_bytes Hs.out.byte (beU2_bytes (f))) hb4)
  clear ho4 hb4 q0 q1 q2
  obtain ⟨⟨q0, q1, q2⟩, _⟩ := HK.out _ Hs.out.old
  obtain ⟨L4, eL4⟩ : ∃ L4, ((([] ++ beU2 sp) ++ beU2 dp) ++ beU2 (8 + (n : Int))) ++ beU2 f = L4 := ⟨_, rfl⟩
  rw [eL4, show 0 + 2 + 2 + 2 + 2 = 8 from rfl] at Hs
  rw [show 0 + 2 + 2 + 2 + 2 = 8 from rfl]
  have EL4 := Lib.hid eL4
  have HRd := Lib.hid (HK.out _ Hs.out.old).2
  clear eL4
  go_wp2_with (refine wpList_app rfl (.tmp 26) (.tmp 28) rfl w0.heap.size A4 A 8 c4 n c L4 d rfl rfl Hs.out.own HRd.out (by omega) Hs.out.old.size ?_; intro A5 c5 w5 ho5 hg5 hb5 hat5)
  have Ho := Lib.hid ho5
  have Hb := Lib.hid (below_trans Hba.out (Hs.out.old.trans hb5))
  clear ho5 hg5 hb5 hat5 Hs q0 q1 q2
  go_wp2_with fail
  go_ret
  have e5 : L4 ++ d = hdU ⟨sp, dp, d⟩ ++ (be16 f ++ d) := by
    rw [← EL4.out, beU2_be16 ⟨s0, s1⟩, beU2_be16 ⟨d0, d1⟩, beU2_be16 ⟨f0, f1⟩, beU2_be16 (by omega)]
    unfold hdU
    rw [show ((d.length : Nat) : Int) = (n : Int) by rw [Hld.out]]
    simp
  exact ⟨A5, c5, rfl, Ho.out.cap, Ho.out.capMax, by rw [← e5]; exact Ho.out.mono Hba.out.size, Hb.out⟩

theorem and_low (x : Int) (h : 0 ≤ x ∧ x < 4294967296) : bits .and .u32 x 65535 = x % 65536 :=
  bits_mask .u32 32 (by decide) wraps_u32 16 (by decide) x h.1 h.2
theorem rpseudo7_any (src dst p : Int) (A : Option Addr) (n c : Nat) (l : List Int) (w : World) (hp : 0 ≤ p ∧ p < 256) (hr : Rd w A n l) (hn : n ≤ 1480) :
    Calls Try.prog 75 #[.int .u32 src, .int .u32 dst, .int .u8 p, .slice A n c] w (RowIs (12 + n) (pseudoL src dst p n ++ l) w) := by
  have HR := Lib.hid (show ∀ w', Below w.heap.size w w' → Rd w' A n l from fun w' hb => hr.below hb)
  have hni : (n : Int) ≤ 1480 := by omega
  have hu1 : IntKind.u32.wrap (n : Int) = (n : Int) := by simp [IntKind.wrap, IntKind.bits, IntKind.signed]; omega
  have hand : bits .and .u32 (n : Int) 65535 = (n : Int) := by rw [and_low _ (by omega)]; omega
  have Hp := Lib.hid hp
  clear hr hp
  go_enter Try.func75, Try.ntmps75
  go_wp2_with fail
  refine (lay4_any none 0 0 [] src _ (by omega) (Rd.nil _ _)).mono ?_
  rintro e w1 ⟨A1, c1, rfl, -, -, ho1, hb1⟩
  have Hs := Lib.hid (RowSo.mk ho1 (by simpa using beU4_bytes src) hb1 : RowSo w w1 A1 (0 + 4) c1 ([] ++ beU4 src))
  clear ho1 hb1
  go_wp2_with fail
  refine (lay4_any A1 (0 + 4) c1 ([] ++ beU4 src) dst _ (by omega) (Hs.out.own.rd Hs.out.byte)).mono ?_
  rintro e w2 ⟨A2, c2, rfl, -, -, ho2, hb2⟩
  have Hs := Lib.hid (Hs.out.next ho2 (app_bytes Hs.out.byte (beU4_bytes dst)) hb2)
  clear ho2 hb2
  obtain ⟨L2, eL2⟩ : ∃ L2, ([] ++ beU4 src) ++ beU4 dst = L2 := ⟨_, rfl⟩
  rw [eL2, show 0 + 4 + 4 = 8 from rfl] at Hs
  rw [show 0 + 4 + 4 = 8 from rfl]
  have EL2 := Lib.hid eL2
  have hzb : ∀ x ∈ [0, p], 0 ≤ x ∧ x < 256 := by have := Hp.out; intro x hx; simp at hx; omega
  have Hzb := Lib.hid hzb
  have Hz := Lib.hid (Rd.const_ w2 w2.heap.size rfl [0, p] 5 (0, 0) hzb)
  have hba := (Below.refl w2.heap.size w2).alloc (Nat.le_refl _) (.cells #[.int .u8 0, .int .u8 p] 5)
  have Hba := Lib.hid hba
  have Ho2 := Lib.hid (Hs.out.own.alloc (.cells #[.int .u8 0, .int .u8 p] 5))
  have hsz : w.heap.size ≤ (w2.alloc (.cells #[.int .u8 0, .int .u8 p] 5)).heap.size := Nat.le_trans Hs.out.old.size hba.size
  clear eL2 hzb hba
  go_upto_region 3 with (refine wpList_app rfl (.tmp 14) (.tmp 16) rfl w.heap.size A2 (some ⟨w2.heap.size, 0, none⟩) 8 c2 2 2 L2 [0, p] rfl rfl Ho2.out Hz.out (by omega) hsz ?_; intro A3 c3 w3 ho3 hg3 hb3 hat3)
  have Hs := Lib.hid (RowSo.mk ho3 (app_bytes Hs.out.byte Hzb.out) ((below_trans Hs.out.old Hba.out).trans hb3) : RowSo w w3 A3 (8 + 2) c3 (L2 ++ [0, p]))
  clear ho3 hg3 hb3 hat3 Ho2 Hz hsz
  try simp only [Nat.reduceAdd]
  go_wp2_with fail
  refine (lay2_any A3 10 c3 (L2 ++ [0, p]) (n : Int) _ (by omega) (Hs.out.own.rd Hs.out.byte)).mono ?_
  rintro e w4 ⟨A4, c4, rfl, -, -, ho4, hb4⟩
  have Hs := Lib.hid (Hs.out.next ho4 (app_bytes Hs.out.byte (beU2_bytes (n : Int))) hb4)
  clear ho4 hb4
  obtain ⟨L4, eL4⟩ : ∃ L4, (L2 ++ [0, p]) ++ beU2 (n : Int) = L4 := ⟨_, rfl⟩
  rw [eL4] at Hs
  have EL4 := Lib.hid eL4
  clear eL4
  have HRd := Lib.hid (HR.out _ Hs.out.old)
  go_wp2_with (refine wpList_app rfl (.tmp 24) (.tmp 25) rfl w.heap.size A4 A 12 c4 n c L4 l rfl rfl Hs.out.own HRd.out (by omega) Hs.out.old.size ?_; intro A5 c5 w5 ho5 hg5 hb5 hat5)
  have Ho := Lib.hid ho5
  have Hb := Lib.hid (Hs.out.old.trans hb5)
  clear ho5 hg5 hb5 hat5 Hs
  go_wp2_with fail
  go_ret
  have e5 : L4 ++ l = pseudoL src dst p n ++ l := by
    rw [← EL4.out, ← EL2.out]
    simp [pseudoL, beU4, beU2]
  exact ⟨A5, c5, rfl, Ho.out.cap, Ho.out.capMax, by rw [← e5]; exact Ho.out, Hb.out⟩

theorem sumL_noughtU (p a t : List Int) (hp : p.length % 2 = 0) (ha : a.length % 2 = 0) : sumL (p ++ (a ++ (be16 0 ++ t))) = sumL (p ++ (a ++ t)) := by
  unfold sumL
  rw [ws_even p _ hp, ws_even a _ ha, ws_even p _ hp, ws_even a _ ha, ws_even (be16 0) t rfl]
  simp [ws, be16]
theorem ruput_bad (src dst sp dp : Int) (A : Option Addr) (n c : Nat) (w : World) (hn : 1472 < n) (hm : n ≤ 140737488355328) :
    Calls Try.prog 34 #[.int .u32 src, .int .u32 dst, .agg #[.int .u16 sp, .int .u16 dp, .slice A n c]] w (UPutBad w) := by
  have hni : (1480 : Int) < 8 + (n : Int) := by omega
  have hn2 : (n : Int) ≤ 140737488355328 := by omega
  have Hb := Lib.hid ((Below.refl w.heap.size w).alloc (Nat.le_refl _) (.cells #[.int .u16 sp, .int .u16 dp, .slice A n c] 57))
  go_enter Try.func34, Try.ntmps34
  go_wp2_with fail
  go_ret2
  exact ⟨rfl, Hb.out⟩
theorem ruput_ok (src dst : Int) (s : Dg) (A : Option Addr) (n c : Nat) (w : World) (hnum : DgNum s) (hr : Rd w A n s.d) (hn : n ≤ 1472) :
    Calls Try.prog 34 #[.int .u32 src, .int .u32 dst, .agg #[.int .u16 s.sp, .int .u16 s.dp, .slice A n c]] w (UPutOk (8 + n) (dgB src dst s) w) := by
  have hld := hr.len
  have hfd : fldU (pseudoL src dst 17 ((8 + n : Nat) : Int) ++ (hdU s ++ (be16 0 ++ s.d))) = fieldU src dst s := by
    unfold fieldU fldU
    rw [sumL_noughtU _ _ _ (by simp [pseudoL]) (by rw [hdU_len]), show (((8 + n : Nat) : Nat) : Int) = 8 + (s.d.length : Int) by rw [hld]; omega]
  have hbl := dgB_bytes src dst hnum (by omega) hr.byte
  have hb0 : ∀ x ∈ hdU s ++ (be16 0 ++ s.d), 0 ≤ x ∧ x < 256 := app_bytes (hdU_bytes hnum (by omega)) (app_bytes (be16_bytes (by omega)) hr.byte)
  have hbp := pseudo_byte src dst 17 ((8 + n : Nat) : Int) (by omega)
  have Hfdb := Lib.hid (show 0 < fieldU src dst s ∧ fieldU src dst s < 65536 from fldU_bd _)
  obtain ⟨fd, efd⟩ : ∃ fd, fieldU src dst s = fd := ⟨_, rfl⟩
  have Hdg := Lib.hid (show dgB src dst s = hdU s ++ (be16 fd ++ s.d) by unfold dgB; rw [efd])
  rw [efd] at hfd Hfdb
  clear efd
  obtain ⟨sp, dp, d⟩ := s
  simp only at hr hfd hbl hb0 hld Hdg ⊢
  obtain ⟨L0, eL0⟩ : ∃ L0, hdU ⟨sp, dp, d⟩ ++ (be16 0 ++ d) = L0 := ⟨_, rfl⟩
  rw [eL0] at hfd hb0
  obtain ⟨sm, esm⟩ : ∃ sm, sumL (pseudoL src dst 17 ((8 + n : Nat) : Int) ++ L0) = sm := ⟨_, rfl⟩
  have hsm := sumL_bd (pseudoL src dst 17 ((8 + n : Nat) : Int) ++ L0)
  unfold fldU at hfd
  rw [esm] at hfd hsm
  obtain ⟨z, hz⟩ : ∃ z, w.heap.size = z := ⟨_, rfl⟩
  have hk := heap_alloc_new w (.cells #[.int .u16 sp, .int .u16 dp, .slice A n c] 57)
  have hba := (Below.refl w.heap.size w).alloc (Nat.le_refl _) (.cells #[.int .u16 sp, .int .u16 dp, .slice A n c] 57)
  rw [hz] at hk
  obtain ⟨w0, ew⟩ : ∃ w0, w.alloc (.cells #[.int .u16 sp, .int .u16 dp, .slice A n c] 57) = w0 := ⟨_, rfl⟩
  rw [ew] at hk hba
  have HK := Lib.hid (show ∀ w', Below w0.heap.size w0 w' → (w'.cell? ⟨z, 0, none⟩ = some (.int .u16 sp) ∧ w'.cell? ⟨z, 1, none⟩ = some (.int .u16 dp) ∧ w'.cell? ⟨z, 2, none⟩ = some (.slice A n c)) ∧ Rd w' A n d from fun w' hb => ⟨cells3 (blk_on hk hb), (hr.below hba).below hb⟩)
  have Hba := Lib.hid hba
  have Hew := Lib.hid ew
  have Hnum := Lib.hid hnum
  have HL0 := Lib.hid eL0
  have Hb0 := Lib.hid hb0
  have Hbp := Lib.hid hbp
  have Esm := Lib.hid esm
  have Hbl := Lib.hid hbl
  have hni : ¬ (1480 : Int) < 8 + (n : Int) := by omega
  have hn2 : (n : Int) ≤ 1472 := by omega
  obtain ⟨⟨q0, q1, q2⟩, _⟩ := HK.out w0 (Below.refl _ _)
  obtain ⟨sm0, sm1⟩ := hsm
  clear hk hba hr hnum ew eL0 hb0 hbp esm hbl hld
  go_enter Try.func34, Try.ntmps34
  go_wp2_with fail
  rw [Hew.out]
  refine (rlaid_any ⟨sp, dp, d⟩ A n c 0 _ Hnum.out (by omega) (HK.out _ (Below.refl _ _)).2 hn).mono ?_
  rintro e w1 ⟨A1, c1, rfl, -, -, ho1, hb1⟩
  simp only [HL0.out] at ho1
  have Hr1 := Lib.hid (ho1.rd Hb0.out)
  have Hb := Lib.hid hb1
  clear ho1 hb1 q0 q1 q2
  obtain ⟨⟨q0, q1, q2⟩, _⟩ := HK.out _ Hb.out
  go_wp2_with fail
  refine (rpseudo7_any src dst 17 A1 (8 + n) c1 L0 _ (by omega) Hr1.out (by omega)).mono ?_
  rintro e w2 ⟨A2, c2, rfl, -, -, ho2, hb2⟩
  have Hr2 := Lib.hid (ho2.rd (app_bytes Hbp.out Hb0.out))
  have Hb := Lib.hid (below_trans Hb.out hb2)
  clear ho2 hb2 q0 q1 q2
  obtain ⟨⟨q0, q1, q2⟩, _⟩ := HK.out _ Hb.out
  go_wp2_with fail
  refine (rsum_any A2 (12 + (8 + n)) c2 (pseudoL src dst 17 ((8 + n : Nat) : Int) ++ L0) _ (by omega) Hr2.out).mono ?_
  rintro e w3 ⟨rfl, rfl⟩
  rw [Esm.out]
  by_cases h0 : 65535 - sm = 0
  · have h0b : (65535 - sm == 0) = true := by simpa using h0
    rw [if_pos h0] at hfd
    subst hfd
    clear h0
    go_wp2_with fail
    refine (rlaid_any ⟨sp, dp, d⟩ A n c 65535 _ Hnum.out (by omega) (HK.out _ Hb.out).2 hn).mono ?_
    rintro e w4 ⟨A4, c4, rfl, k4, m4, ho4, hb4⟩
    have Ho := Lib.hid (ho4.mono (B' := w.heap.size) (Nat.le_trans Hba.out.size Hb.out.size))
    have Hbz := Lib.hid (below_trans Hba.out (below_trans Hb.out hb4))
    clear ho4 hb4 q0 q1 q2
    go_wp2_with fail
    go_ret2
    exact ⟨A4, c4, rfl, k4, m4, by rw [Hdg.out]; exact Ho.out, Hbz.out⟩
  · have h0b : (65535 - sm == 0) = false := by simpa using h0
    rw [if_neg h0] at hfd
    subst hfd
    clear h0
    go_wp2_with fail
    refine (rlaid_any ⟨sp, dp, d⟩ A n c (65535 - sm) _ Hnum.out (by omega) (HK.out _ Hb.out).2 hn).mono ?_
    rintro e w4 ⟨A4, c4, rfl, k4, m4, ho4, hb4⟩
    have Ho := Lib.hid (ho4.mono (B' := w.heap.size) (Nat.le_trans Hba.out.size Hb.out.size))
    have Hbz := Lib.hid (below_trans Hba.out (below_trans Hb.out hb4))
    clear ho4 hb4 q0 q1 q2
    go_wp2_with fail
    go_ret2
    exact ⟨A4, c4, rfl, k4, m4, by rw [Hdg.out]; exact Ho.out, Hbz.out⟩
end Go.Proofs.Ytoblllgefmajiaa
