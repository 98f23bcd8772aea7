/-
  Texts laid together: IpRef, IpRefPut, Whole.
-/
import Derived.Test.YtkooehejdfaekaaGreatZP04
import Derived.Test.YtkooehejdfaekaaGreatZP03
import Derived.RegionTactic
import Derived.Test.YtkooehejdfaekaaGreatZP12
import Derived.Test.YtkooehejdfaekaaGreatZP07
import Derived.Test.YtkooehejdfaekaaGreatZP08
import Derived.BigRegion
import Derived.Deep.DeepCutAuto
import Derived.Deep.CutRange
import Derived.Deep.RegionHeld3
import Derived.Test.YtkooehejdfaekaaGreatZP01
import Derived.Deep.WholeRow

/-
  The document's own answers for heads (culvertref04): May, Same.
-/
namespace Go.Proofs.YtkooehejdfaekaaGreat
set_option maxRecDepth 10000
open Go.RowKit
set_option linter.unusedSimpArgs false
set_option linter.unusedVariables false

theorem rmay4_any (h : Hd) (A : Option Addr) (n c : Nat) (x : Bool) (w : World) (h0 : 0 ≤ h.tt) (hx : mayB h.tt n = x) :
    Calls Tryz.prog 30 #[.agg #[.int .u8 h.to, .int .u16 h.id, .bool h.df, .int .u8 h.tt, .int .u8 h.pr, .int .u32 h.sr, .int .u32 h.ds, .slice A n c]] w (BoolIs x w) := by
  obtain ⟨to_, id_, df, tt, pr, sr, ds, o⟩ := h
  simp only at h0 hx ⊢
  have Hb := Lib.hid ((Below.refl w.heap.size w).alloc (Nat.le_refl _) (.cells #[.int .u8 to_, .int .u16 id_, .bool df, .int .u8 tt, .int .u8 pr, .int .u32 sr, .int .u32 ds, .slice A n c] 26))
  have Hx := Lib.hid hx
  clear hx
  by_cases h1 : tt = 0
  · subst h1
    go_enter Tryz.func30, Tryz.ntmps30
    go_wp2_with fail
    go_ret
    exact ⟨ret_bool (by rw [← Hx.out]; unfold mayB; (simp <;> omega)), Hb.out⟩
  have h1b : (tt != 0) = true := by simpa using h1
  by_cases h2 : (n : Int) ≤ 40
  · have h4 : Int.tmod (n : Int) 4 = (n : Int) % 4 := Int.tmod_eq_emod_of_nonneg (by omega)
    by_cases h3 : (n : Int) % 4 = 0
    · have h3b : ((n : Int) % 4 == 0) = true := by simpa using h3
      go_enter Tryz.func30, Tryz.ntmps30
      go_wp2_with fail
      go_ret
      exact ⟨ret_bool (by rw [← Hx.out]; unfold mayB; (simp <;> omega)), Hb.out⟩
    · have h3b : ((n : Int) % 4 == 0) = false := by simpa using h3
      go_enter Tryz.func30, Tryz.ntmps30
      go_wp2_with fail
      go_ret
      exact ⟨ret_bool (by rw [← Hx.out]; unfold mayB; (simp <;> omega)), Hb.out⟩
  · have h2' : 40 < (n : Int) := by omega
    go_enter Tryz.func30, Tryz.ntmps30
    go_wp2_with fail
    go_ret
    exact ⟨ret_bool (by rw [← Hx.out]; unfold mayB; (simp <;> omega)), Hb.out⟩

theorem strs_eqH (a b : List Int) (ha : ∀ x ∈ a, 0 ≤ x ∧ x < 256) (hb : ∀ x ∈ b, 0 ≤ x ∧ x < 256) : ((strOfNums a).toList == (strOfNums b).toList) = decide (a = b) := by
  rw [ByteArray.toList_eq, ByteArray.toList_eq]
  by_cases e : a = b
  · subst e; simp
  · rw [beq_eq_false_iff_ne.2 (fun x => e (nums_inj _ _ ha hb (by simpa [strOfNums_data] using x)))]
    simp [e]
theorem rsame4_any (h h' : Hd) (A : Option Addr) (n c : Nat) (A' : Option Addr) (n' c' : Nat) (w : World) (x : Bool) (hr : Rd w A n h.o) (hr' : Rd w A' n' h'.o) (hx : hdSame h h' = x) :
    Calls Tryz.prog 32 #[.agg #[.int .u8 h.to, .int .u16 h.id, .bool h.df, .int .u8 h.tt, .int .u8 h.pr, .int .u32 h.sr, .int .u32 h.ds, .slice A n c], .agg #[.int .u8 h'.to, .int .u16 h'.id, .bool h'.df, .int .u8 h'.tt, .int .u8 h'.pr, .int .u32 h'.sr, .int .u32 h'.ds, .slice A' n' c']] w (BoolIs x w) := by
  obtain ⟨to_, id_, df, tt, pr, sr, ds, o⟩ := h
  obtain ⟨to2, id2, df2, tt2, pr2, sr2, ds2, o2⟩ := h'
  simp only at hr hr' ⊢
  have hb := ((Below.refl w.heap.size w).alloc (Nat.le_refl _) (.cells #[.int .u8 to_, .int .u16 id_, .bool df, .int .u8 tt, .int .u8 pr, .int .u32 sr, .int .u32 ds, .slice A n c] 26)).alloc (by simp) (.cells #[.int .u8 to2, .int .u16 id2, .bool df2, .int .u8 tt2, .int .u8 pr2, .int .u32 sr2, .int .u32 ds2, .slice A' n' c'] 26)
  have H1 := Lib.hid (hr.below hb)
  have H2 := Lib.hid (hr'.below hb)
  have Hb := Lib.hid hb
  clear hr hr' hb
  unfold hdSame at hx
  simp only at hx
  by_cases h1 : to_ = to2
  case neg =>
    have h1b : (to_ == to2) = false := by simpa using h1
    have Hx := Lib.hid (show x = false by rw [← hx]; simp [h1])
    clear hx h1
    go_enter Tryz.func32, Tryz.ntmps32
    go_wp2_with fail
    go_ret
    exact ⟨ret_bool (by rw [Hx.out]), Hb.out⟩
  subst h1
  by_cases h2 : id_ = id2
  case neg =>
    have h2b : (id_ == id2) = false := by simpa using h2
    have Hx := Lib.hid (show x = false by rw [← hx]; simp [h2])
    clear hx h2
    go_enter Tryz.func32, Tryz.ntmps32
    go_wp2_with fail
    go_ret
    exact ⟨ret_bool (by rw [Hx.out]), Hb.out⟩
  subst h2
  by_cases h3 : df = df2
  case neg =>
    have h3b : (df == df2) = false := by simpa using h3
    have Hx := Lib.hid (show x = false by rw [← hx]; simp [h3])
    clear hx h3
    go_enter Tryz.func32, Tryz.ntmps32
    go_wp2_with fail
    go_ret
    exact ⟨ret_bool (by rw [Hx.out]), Hb.out⟩
  subst h3
  by_cases h4 : tt = tt2
  case neg =>
    have h4b : (tt == tt2) = false := by simpa using h4
    have Hx := Lib.hid (show x = false by rw [← hx]; simp [h4])
    clear hx h4
    go_enter Tryz.func32, Tryz.ntmps32
    go_wp2_with fail
    go_ret
    exact ⟨ret_bool (by rw [Hx.out]), Hb.out⟩
  subst h4
  by_cases h5 : pr = pr2
  case neg =>
    have h5b : (pr == pr2) = false := by simpa using h5
    have Hx := Lib.hid (show x = false by rw [← hx]; simp [h5])
    clear hx h5
    go_enter Tryz.func32, Tryz.ntmps32
    go_wp2_with fail
    go_ret
    exact ⟨ret_bool (by rw [Hx.out]), Hb.out⟩
  subst h5
  by_cases h6 : sr = sr2
  case neg =>
    have h6b : (sr == sr2) = false := by simpa using h6
    have Hx := Lib.hid (show x = false by rw [← hx]; simp [h6])
    clear hx h6
    go_enter Tryz.func32, Tryz.ntmps32
    go_wp2_with fail
    go_ret
    exact ⟨ret_bool (by rw [Hx.out]), Hb.out⟩
  subst h6
  by_cases h7 : ds = ds2
  case neg =>
    have h7b : (ds == ds2) = false := by simpa using h7
    have Hx := Lib.hid (show x = false by rw [← hx]; simp [h7])
    clear hx h7
    go_enter Tryz.func32, Tryz.ntmps32
    go_wp2_with fail
    go_ret
    exact ⟨ret_bool (by rw [Hx.out]), Hb.out⟩
  subst h7
  have k1 := conv_rd H1.out c
  have k2 := conv_rd H2.out c'
  have Hse := Lib.hid ((strs_eqH o o2 H1.out.byte H2.out.byte).trans (show decide (o = o2) = x by simpa using hx))
  clear H1 H2 hx
  go_enter Tryz.func32, Tryz.ntmps32
  go_wp2_with fail
  go_ret
  exact ⟨ret_bool Hse.out, Hb.out⟩
end Go.Proofs.YtkooehejdfaekaaGreat

/-
  The document's own answers for heads (culvertref04): Put.
-/
namespace Go.Proofs.YtkooehejdfaekaaGreat
set_option maxRecDepth 10000
open Go.RowKit
set_option linter.unusedSimpArgs false
set_option linter.unusedVariables false

theorem rput4_long (h : Hd) (A A' : Option Addr) (n c n' c' : Nat) (w : World) (h0 : 0 ≤ h.tt) (hm : mayB h.tt n = true) (hn : n ≤ 40) (hn' : n' ≤ 140737488355328) (hl : 1500 < 20 + n + n') :
    Calls Tryz.prog 23 #[.agg #[.int .u8 h.to, .int .u16 h.id, .bool h.df, .int .u8 h.tt, .int .u8 h.pr, .int .u32 h.sr, .int .u32 h.ds, .slice A n c], .slice A' n' c'] w (NoneIs 3 w) := by
  have Hm := Lib.hid (fun W => rmay4_any h A n c true W h0 hm)
  obtain ⟨to_, id_, df, tt, pr, sr, ds, o⟩ := h
  simp only at Hm ⊢
  have Hb := Lib.hid ((Below.refl w.heap.size w).alloc (Nat.le_refl _) (.cells #[.int .u8 to_, .int .u16 id_, .bool df, .int .u8 tt, .int .u8 pr, .int .u32 sr, .int .u32 ds, .slice A n c] 26))
  have Hblk := Lib.hid (heap_alloc_new w (.cells #[.int .u8 to_, .int .u16 id_, .bool df, .int .u8 tt, .int .u8 pr, .int .u32 sr, .int .u32 ds, .slice A n c] 26))
  have hli : 1500 < 20 + (n : Int) + (n' : Int) := by omega
  clear h0 hm hl
  go_enter Tryz.func23, Tryz.ntmps23
  go_wp2_with fail
  refine (Hm.out _).mono ?_
  rintro e w1 ⟨rfl, hb⟩
  have Hb := Lib.hid (below_trans Hb.out hb)
  have Hblk := Lib.hid (blk_on Hblk.out hb)
  have hc := blk_cell Hblk.out 7
  simp at hc
  clear hb
  go_wp2_with fail
  go_ret2
  exact ⟨rfl, Hb.out⟩
theorem cells8 {w : World} {g : Nat} {u0 u1 u2 u3 u4 u5 u6 u7 : Value} {t : TypeId} (h : w.heap[g]? = some (.cells #[u0, u1, u2, u3, u4, u5, u6, u7] t (0, 0))) : w.cell? ⟨g, 0, none⟩ = some u0 ∧ w.cell? ⟨g, 1, none⟩ = some u1 ∧ w.cell? ⟨g, 2, none⟩ = some u2 ∧ w.cell? ⟨g, 3, none⟩ = some u3 ∧ w.cell? ⟨g, 4, none⟩ = some u4 ∧ w.cell? ⟨g, 5, none⟩ = some u5 ∧ w.cell? ⟨g, 6, none⟩ = some u6 ∧ w.cell? ⟨g, 7, none⟩ = some u7 := by
  refine ⟨?_, ?_, ?_, ?_, ?_, ?_, ?_, ?_⟩ <;> (rw [blk_cell h]; rfl)
/-- A row being laid beside a block that stays. -/
structure Lay4 (w : World) (z g : Nat) (hc : Array Value) (L : List Int) (w' : World) : Prop where
  own : OwnB w' g (some ⟨g, 0, none⟩) 20 20 L
  blk : w'.heap[z]? = some (.cells hc 26 (0, 0))
  low : Below g w w'
theorem Lay4.set_ {w : World} {z g : Nat} {hc : Array Value} {L : List Int} {w' : World} (h : Lay4 w z g hc L w') (hz : z ≠ g) (i : Nat) (x : Int) : Lay4 w z g hc (L.set i x) (w'.setCell ⟨g, i, none⟩ (.int .u8 x)) :=
  ⟨h.own.set_ i x, (Below.heap_setCell _ _ _ _ (by simpa using hz)).trans h.blk, h.low.setCell (p := ⟨g, i, none⟩) (Nat.le_refl _) _⟩
theorem Lay4.drew {w : World} {z g : Nat} {hc : Array Value} {L : List Int} {w' : World} (h : Lay4 w z g hc L w') : Lay4 w z g hc L w'.drew := ⟨h.own, h.blk, h.low.drew⟩
/-- The addresses, j bytes of each laid. -/
def addr4 (l : List Int) (sr ds : Int) (j : Nat) : List Int := l ++ ((b32 sr).take j ++ List.replicate (4 - j) 0) ++ ((b32 ds).take j ++ List.replicate (4 - j) 0)
theorem ws_zeros (a b : List Int) (ha : a.length % 2 = 0) : ws false (a ++ ([0, 0] ++ b)) = ws false (a ++ b) := by
  rw [ws_even a _ ha, ws_even a _ ha, ws_even [0, 0] b rfl]
  simp [ws]
theorem lay4_list (to_ id_ tt pr sr ds : Int) (df : Bool) (o p : List Int) (n n' : Nat) (a0 a2 a3 F : Int) (ho : o.length = n) (hp : p.length = n') (e0 : 64 + (20 + (n : Int)) / 4 = a0) (e2 : (20 + (n : Int) + (n' : Int)) / 256 = a2) (e3 : (20 + (n : Int) + (n' : Int)) % 256 = a3) (eF : F = if df = true then 64 else 0)
    (Lh : List Int) (eL : addr4 [a0, to_, a2, a3, id_ / 256, id_ % 256, F, 0, tt, pr, 0, 0] sr ds 4 = Lh) :
    ((Lh ++ o).set 10 ((65535 - sumL (Lh ++ o)) / 256)).set 11 ((65535 - sumL (Lh ++ o)) % 256) ++ p = hdB ⟨to_, id_, df, tt, pr, sr, ds, o⟩ p := by
  subst ho hp
  have hah : aheadL to_ id_ df tt pr o.length (20 + o.length + p.length) = [a0, to_, a2, a3, id_ / 256, id_ % 256, F, 0, tt, pr] := by
    subst e0 e2 e3 eF
    cases df <;> simp [aheadL, b16, flagsOf]
  have hLh : Lh ++ o = aheadL to_ id_ df tt pr o.length (20 + o.length + p.length) ++ ([0, 0] ++ behindL sr ds o) := by
    rw [hah, ← eL]
    simp [addr4, behindL, b32]
  have hf : 65535 - sumL (Lh ++ o) = fieldL to_ id_ df tt pr sr ds o (20 + o.length + p.length) := by
    unfold fieldL sumL
    rw [hLh, ws_zeros _ _ (by rw [aheadL_len])]
  rw [hf]
  unfold hdB packetL
  simp only
  generalize fieldL to_ id_ df tt pr sr ds o (20 + o.length + p.length) = f
  rw [hLh, hah]
  simp [b16]
set_option maxHeartbeats 4000000 in
theorem rput4_ok (h : Hd) (A A' : Option Addr) (n c n' c' : Nat) (p : List Int) (w : World) (hnum : HdNum h) (hm : mayB h.tt n = true) (hc : n ≤ c ∧ c ≤ maxLen) (hc' : n' ≤ c' ∧ c' ≤ maxLen) (hr : Rd w A n h.o) (hr' : Rd w A' n' p) (hl : 20 + n + n' ≤ 1500) :
    Calls Tryz.prog 23 #[.agg #[.int .u8 h.to, .int .u16 h.id, .bool h.df, .int .u8 h.tt, .int .u8 h.pr, .int .u32 h.sr, .int .u32 h.ds, .slice A n c], .slice A' n' c'] w (RowOk (20 + n + n') (hdB h p) w) := by
  have Hm := Lib.hid (fun W => rmay4_any h A n c true W hnum.tt.1 hm)
  have n0 := hnum.to
  have n1 := hnum.id
  have n2 := hnum.tt
  have n3 := hnum.pr
  have n4 := hnum.sr
  have n5 := hnum.ds
  have hB : hdB h p = hdB h p := rfl
  obtain ⟨to_, id_, df, tt, pr, sr, ds, o⟩ := h
  simp only at Hm n0 n1 n2 n3 n4 n5 hr hm ⊢
  have hn40 : n ≤ 40 ∧ n % 4 = 0 := by unfold mayB at hm; simp at hm; omega
  obtain ⟨z, hz⟩ : ∃ z, w.heap.size = z := ⟨_, rfl⟩
  obtain ⟨w0, ew⟩ : ∃ w0, w.alloc (.cells #[.int .u8 to_, .int .u16 id_, .bool df, .int .u8 tt, .int .u8 pr, .int .u32 sr, .int .u32 ds, .slice A n c] 26) = w0 := ⟨_, rfl⟩
  have hb0 : Below w.heap.size w w0 := by rw [← ew]; exact (Below.refl _ _).alloc (Nat.le_refl _) _
  have Hk := Lib.hid (show w0.heap[z]? = some (.cells #[.int .u8 to_, .int .u16 id_, .bool df, .int .u8 tt, .int .u8 pr, .int .u32 sr, .int .u32 ds, .slice A n c] 26 (0, 0)) by rw [← ew, ← hz]; exact heap_alloc_new w _)
  have Hb0 := Lib.hid hb0
  have Hr := Lib.hid (hr.below hb0)
  have Hr' := Lib.hid (hr'.below hb0)
  have Hew := Lib.hid ew
  have Hz := Lib.hid hz
  have hni : 20 + (n : Int) + (n' : Int) ≤ 1500 := by omega
  have k20 : ∀ w, (Instr.makeSlice 24 (.int .i64 20) (.int .i64 20)).run Tryz.prog w = .ok (.slice (some ⟨w.heap.size, 0, none⟩) 20 20) (w.alloc (.cells (madeCells (Value.int .u8 0).cells 20) 5)) := fun w => made_run 20 (by omega) w
  clear hb0 ew hr hr' hz hm hB
  go_enter Tryz.func23, Tryz.ntmps23
  go_upto_region 1 with (fail)
  rw [Hew.out]
  try rw [Hz.out]
  obtain ⟨c0, c1, c2, c3, c4, c5, c6, c7⟩ := cells8 Hk.out
  go_wp2_with fail
  refine (Hm.out _).mono ?_
  rintro e w1 ⟨rfl, hb⟩
  have Hb := Lib.hid (below_trans Hb0.out hb)
  have Hk := Lib.hid (blk_on Hk.out hb)
  have Hr := Lib.hid (Hr.out.below hb)
  have Hr' := Lib.hid (Hr'.out.below hb)
  clear hb c0 c1 c2 c3 c4 c5 c6 c7
  obtain ⟨c0, c1, c2, c3, c4, c5, c6, c7⟩ := cells8 Hk.out
  go_upto_region 8 with (fail)
  clear c0 c1 c2 c3 c4 c5 c6 c7 k20
  have hzw : z < w1.heap.size := lt_of_block Hk.out
  have hrow := made_own w1 w1.heap.size 20 rfl (by omega)
  have hbm : Below w1.heap.size w1 (w1.alloc (.cells (madeCells #[Value.int .u8 0] 20) 5)) := (Below.refl _ _).alloc (Nat.le_refl _) _
  have hkb := blk_on Hk.out hbm
  obtain ⟨g, eg⟩ : ∃ g, w1.heap.size = g := ⟨_, rfl⟩
  obtain ⟨v0, ev0⟩ : ∃ v, w1.alloc (.cells (madeCells #[Value.int .u8 0] 20) 5) = v := ⟨_, rfl⟩
  rw [eg] at hzw hrow hbm
  rw [ev0] at hrow hbm hkb
  have HL0 := Lib.hid (show Lay4 w1 z g #[.int .u8 to_, .int .u16 id_, .bool df, .int .u8 tt, .int .u8 pr, .int .u32 sr, .int .u32 ds, .slice A n c] (List.replicate 20 0) v0 from ⟨hrow, hkb, hbm⟩)
  have Eg := Lib.hid eg
  have hzg : z ≠ g := by omega
  have hgz : g ≠ z := by omega
  try simp only [eg]
  try rw [ev0]
  have hq0 : Int.tdiv (20 + (n : Int)) 4 = (20 + (n : Int)) / 4 := Int.tdiv_eq_ediv_of_nonneg (by omega)
  have hq1 : IntKind.u8.wrap (64 + (20 + (n : Int)) / 4) = 64 + (20 + (n : Int)) / 4 := by (simp [IntKind.wrap, IntKind.bits, IntKind.signed] <;> omega)
  have hq2 : Int.tdiv (20 + (n : Int) + (n' : Int)) 256 = (20 + (n : Int) + (n' : Int)) / 256 := Int.tdiv_eq_ediv_of_nonneg (by omega)
  have hq3 : Int.tmod (20 + (n : Int) + (n' : Int)) 256 = (20 + (n : Int) + (n' : Int)) % 256 := Int.tmod_eq_emod_of_nonneg (by omega)
  have hq4 : IntKind.u8.wrap ((20 + (n : Int) + (n' : Int)) / 256) = (20 + (n : Int) + (n' : Int)) / 256 := by (simp [IntKind.wrap, IntKind.bits, IntKind.signed] <;> omega)
  have hq5 : IntKind.u8.wrap ((20 + (n : Int) + (n' : Int)) % 256) = (20 + (n : Int) + (n' : Int)) % 256 := by (simp [IntKind.wrap, IntKind.bits, IntKind.signed] <;> omega)
  have hq6 : Int.tdiv id_ 256 = id_ / 256 := Int.tdiv_eq_ediv_of_nonneg n1.1
  have hq7 : Int.tmod id_ 256 = id_ % 256 := Int.tmod_eq_emod_of_nonneg n1.1
  have hqa : IntKind.u16.wrap (id_ / 256) = id_ / 256 := by (simp [IntKind.wrap, IntKind.bits, IntKind.signed] <;> omega)
  have hqb : IntKind.u16.wrap (id_ % 256) = id_ % 256 := by (simp [IntKind.wrap, IntKind.bits, IntKind.signed] <;> omega)
  have hq8 : IntKind.u8.wrap (id_ / 256) = id_ / 256 := by (simp [IntKind.wrap, IntKind.bits, IntKind.signed] <;> omega)
  have hq9 : IntKind.u8.wrap (id_ % 256) = id_ % 256 := by (simp [IntKind.wrap, IntKind.bits, IntKind.signed] <;> omega)
  obtain ⟨-, hcx, hfx⟩ := own_index HL0.out.own 0 0 (by omega) rfl
  obtain ⟨c0, c1, c2, c3, c4, c5, c6, c7⟩ := cells8 HL0.out.blk
  go_upto_region 9 with (fail)
  have HL1 := Lib.hid (HL0.out.set_ hzg 0 (64 + (20 + (n : Int)) / 4))
  obtain ⟨v1, ev⟩ : ∃ v, v0.setCell ⟨g, 0, none⟩ (.int .u8 (64 + (20 + (n : Int)) / 4)) = v := ⟨_, rfl⟩
  rw [ev] at HL1 ⊢
  clear ev hcx hfx c0 c1 c2 c3 c4 c5 c6 c7 HL0
  obtain ⟨-, hcx, hfx⟩ := own_index HL1.out.own 1 1 (by omega) rfl
  obtain ⟨c0, c1, c2, c3, c4, c5, c6, c7⟩ := cells8 HL1.out.blk
  go_upto_region 10 with (fail)
  have HL2 := Lib.hid (HL1.out.set_ hzg 1 (to_))
  obtain ⟨v2, ev⟩ : ∃ v, v1.setCell ⟨g, 1, none⟩ (.int .u8 (to_)) = v := ⟨_, rfl⟩
  rw [ev] at HL2 ⊢
  clear ev hcx hfx c0 c1 c2 c3 c4 c5 c6 c7 HL1
  obtain ⟨-, hc2, hf2⟩ := own_index HL2.out.own 2 2 (by omega) rfl
  obtain ⟨-, hc3, hf3⟩ := own_index HL2.out.own 3 3 (by omega) rfl
  go_upto_region 11 with (fail)
  have HL3 := Lib.hid ((HL2.out.set_ hzg 2 ((20 + (n : Int) + (n' : Int)) / 256)).set_ hzg 3 ((20 + (n : Int) + (n' : Int)) % 256))
  obtain ⟨v3, ev⟩ : ∃ v, (v2.setCell ⟨g, 2, none⟩ (.int .u8 ((20 + (n : Int) + (n' : Int)) / 256))).setCell ⟨g, 3, none⟩ (.int .u8 ((20 + (n : Int) + (n' : Int)) % 256)) = v := ⟨_, rfl⟩
  rw [ev] at HL3 ⊢
  clear ev hc2 hf2 hc3 hf3 HL2
  have HLd := Lib.hid HL3.out.drew
  refine wp_region_held_drew (S := fun w' => w'.cell? ⟨z, 1, none⟩ = some (.int .u16 id_)) (by kernel_rfl) ((fun h => (cells8 h).2.1) HLd.out.blk) (fun hHeld => ?_)
  obtain ⟨vd, evd⟩ : ∃ vd, v3.drew = vd := ⟨_, rfl⟩
  rw [evd] at HLd hHeld ⊢
  clear evd
  obtain ⟨hix4, hcx, hfx⟩ := own_index HLd.out.own 4 4 (by omega) rfl
  have HLe := Lib.hid (HLd.out.set_ hzg 4 (id_ / 256))
  obtain ⟨hix5, hcy, hfy⟩ := own_index HLd.out.own 5 5 (by omega) rfl
  have HL4 := Lib.hid (HLe.out.set_ hzg 5 (id_ % 256))
  refine wpAnyH_take (i := 0) (oi := { dst := some 45, op := Go.Op.move (Go.Operand.tmp 8), type := 24, pos := "ref.go:54", after := #[], guard := none }) (v := ?_) rfl (by kernel_rfl) (by kernel_rfl) (by kernel_rfl) (fun _ _ _ h => h) (Or.inl ⟨by rfl, ?_⟩) (by assumption) ?_
  rotate_left 1
  · intro w' hSw; (go_simp <;> (with_reducible rfl))
  (try simp only [Act.put, List.setIfInBounds_toArray, List.set_cons_zero, List.set_cons_succ])
  refine wpAnyH_take (i := 1) (oi := { dst := some 46, op := Go.Op.move (Go.Operand.tmp 8), type := 24, pos := "ref.go:54", after := #[{ on := 11, ground := Go.Ground.gcOnly Go.Departure.lateStores }], guard := none }) (v := ?_) rfl (by kernel_rfl) (by kernel_rfl) (by kernel_rfl) (fun _ _ _ h => h) (Or.inl ⟨by rfl, ?_⟩) (by assumption) ?_
  rotate_left 1
  · intro w' hSw; (go_simp <;> (with_reducible rfl))
  (try simp only [Act.put, List.setIfInBounds_toArray, List.set_cons_zero, List.set_cons_succ])
  refine wpAnyH_take (i := 2) (oi := { dst := some 47, op := Go.Op.fieldAddr 26 (Go.Operand.tmp 2) 1, type := 0, pos := "ref.go:54", after := #[], guard := none }) (v := ?_) rfl (by kernel_rfl) (by kernel_rfl) (by kernel_rfl) (fun _ _ _ h => h) (Or.inl ⟨by rfl, ?_⟩) (by assumption) ?_
  rotate_left 1
  · intro w' hSw; (go_simp <;> (with_reducible rfl))
  (try simp only [Act.put, List.setIfInBounds_toArray, List.set_cons_zero, List.set_cons_succ])
  refine wpAnyH_take (i := 3) (oi := { dst := some 48, op := Go.Op.load 22 (Go.Operand.tmp 47), type := 22, pos := "ref.go:54", after := #[{ on := 2, ground := Go.Ground.data }], guard := none }) (v := ?_) rfl (by kernel_rfl) (by kernel_rfl) (by kernel_rfl) (fun _ _ _ h => h) (Or.inl ⟨by rfl, ?_⟩) (by assumption) ?_
  rotate_left 1
  · intro w' hSw; (go_simp <;> (with_reducible rfl))
  (try simp only [Act.put, List.setIfInBounds_toArray, List.set_cons_zero, List.set_cons_succ])
  refine wpAnyH_take (i := 4) (oi := { dst := some 49, op := Go.Op.binOp Go.BinOp.quo 22 (Go.Operand.tmp 48) (Go.Operand.const (Go.Value.int Go.IntKind.u16 256)) 22, type := 22, pos := "ref.go:54", after := #[{ on := 3, ground := Go.Ground.data }], guard := none }) (v := ?_) rfl (by kernel_rfl) (by kernel_rfl) (by kernel_rfl) (fun _ _ _ h => h) (Or.inl ⟨by rfl, ?_⟩) (by assumption) ?_
  rotate_left 1
  · intro w' hSw; (go_simp <;> (with_reducible rfl))
  (try simp only [Act.put, List.setIfInBounds_toArray, List.set_cons_zero, List.set_cons_succ])
  refine wpAnyH_take (i := 5) (oi := { dst := some 50, op := Go.Op.convert 22 5 (Go.Operand.tmp 49), type := 5, pos := "ref.go:54", after := #[{ on := 4, ground := Go.Ground.data }], guard := none }) (v := ?_) rfl (by kernel_rfl) (by kernel_rfl) (by kernel_rfl) (fun _ _ _ h => h) (Or.inl ⟨by rfl, ?_⟩) (by assumption) ?_
  rotate_left 1
  · intro w' hSw; (go_simp <;> (with_reducible rfl))
  (try simp only [Act.put, List.setIfInBounds_toArray, List.set_cons_zero, List.set_cons_succ])
  refine wpAnyH_take (i := 6) (oi := { dst := some 51, op := Go.Op.fieldAddr 26 (Go.Operand.tmp 2) 1, type := 0, pos := "ref.go:54", after := #[{ on := 11, ground := Go.Ground.gcOnly Go.Departure.lateStores }], guard := none }) (v := ?_) rfl (by kernel_rfl) (by kernel_rfl) (by kernel_rfl) (fun _ _ _ h => h) (Or.inl ⟨by rfl, ?_⟩) (by assumption) ?_
  rotate_left 1
  · intro w' hSw; (go_simp <;> (with_reducible rfl))
  (try simp only [Act.put, List.setIfInBounds_toArray, List.set_cons_zero, List.set_cons_succ])
  refine wpAnyH_take (i := 7) (oi := { dst := some 52, op := Go.Op.load 22 (Go.Operand.tmp 51), type := 22, pos := "ref.go:54", after := #[{ on := 6, ground := Go.Ground.data }, { on := 11, ground := Go.Ground.gcOnly Go.Departure.lateStores }], guard := none }) (v := ?_) rfl (by kernel_rfl) (by kernel_rfl) (by kernel_rfl) (fun _ _ _ h => h) (Or.inl ⟨by rfl, ?_⟩) (by assumption) ?_
  rotate_left 1
  · intro w' hSw; (go_simp <;> (with_reducible rfl))
  (try simp only [Act.put, List.setIfInBounds_toArray, List.set_cons_zero, List.set_cons_succ])
  refine wpAnyH_take (i := 8) (oi := { dst := some 53, op := Go.Op.binOp Go.BinOp.rem 22 (Go.Operand.tmp 52) (Go.Operand.const (Go.Value.int Go.IntKind.u16 256)) 22, type := 22, pos := "ref.go:54", after := #[{ on := 7, ground := Go.Ground.data }, { on := 11, ground := Go.Ground.gcOnly Go.Departure.lateStores }], guard := none }) (v := ?_) rfl (by kernel_rfl) (by kernel_rfl) (by kernel_rfl) (fun _ _ _ h => h) (Or.inl ⟨by rfl, ?_⟩) (by assumption) ?_
  rotate_left 1
  · intro w' hSw; (go_simp <;> (with_reducible rfl))
  (try simp only [Act.put, List.setIfInBounds_toArray, List.set_cons_zero, List.set_cons_succ])
  refine wpAnyH_take (i := 9) (oi := { dst := some 54, op := Go.Op.convert 22 5 (Go.Operand.tmp 53), type := 5, pos := "ref.go:54", after := #[{ on := 8, ground := Go.Ground.data }, { on := 11, ground := Go.Ground.gcOnly Go.Departure.lateStores }], guard := none }) (v := ?_) rfl (by kernel_rfl) (by kernel_rfl) (by kernel_rfl) (fun _ _ _ h => h) (Or.inl ⟨by rfl, ?_⟩) (by assumption) ?_
  rotate_left 1
  · intro w' hSw; (go_simp <;> (with_reducible rfl))
  (try simp only [Act.put, List.setIfInBounds_toArray, List.set_cons_zero, List.set_cons_succ])
  refine wpAnyH_take (i := 10) (oi := { dst := some 55, op := Go.Op.indexAddr 24 (Go.Operand.tmp 45) (Go.Operand.const (Go.Value.int Go.IntKind.i64 4)), type := 0, pos := "ref.go:54", after := #[{ on := 0, ground := Go.Ground.data }, { on := 0, ground := Go.Ground.phase }, { on := 1, ground := Go.Ground.textOnly Go.Departure.lateStores }, { on := 2, ground := Go.Ground.phase }, { on := 3, ground := Go.Ground.phase }, { on := 4, ground := Go.Ground.phase }, { on := 5, ground := Go.Ground.phase }, { on := 6, ground := Go.Ground.textOnly Go.Departure.lateStores }, { on := 7, ground := Go.Ground.textOnly Go.Departure.lateStores }, { on := 8, ground := Go.Ground.textOnly Go.Departure.lateStores }, { on := 9, ground := Go.Ground.textOnly Go.Departure.lateStores }], guard := none }) (v := ?_) rfl (by kernel_rfl) (by kernel_rfl) (by kernel_rfl) (fun _ _ _ h => h) (Or.inl ⟨by rfl, ?_⟩) (by assumption) ?_
  rotate_left 1
  · intro w' hSw; (go_simp <;> (with_reducible rfl))
  (try simp only [Act.put, List.setIfInBounds_toArray, List.set_cons_zero, List.set_cons_succ])
  refine wpAnyH_ready (rs := [11]) (by kernel_rfl) (by simp) ?_
  refine AllReadyH.cons (o := { dst := none, op := Go.Op.store 5 (Go.Operand.tmp 55) (Go.Operand.tmp 50), type := 0, pos := "ref.go:54", after := #[{ on := 10, ground := Go.Ground.data }, { on := 5, ground := Go.Ground.data }, { on := 0, ground := Go.Ground.phase }, { on := 1, ground := Go.Ground.textOnly Go.Departure.lateStores }, { on := 2, ground := Go.Ground.phase }, { on := 3, ground := Go.Ground.phase }, { on := 4, ground := Go.Ground.phase }, { on := 5, ground := Go.Ground.phase }, { on := 6, ground := Go.Ground.textOnly Go.Departure.lateStores }, { on := 7, ground := Go.Ground.textOnly Go.Departure.lateStores }, { on := 8, ground := Go.Ground.textOnly Go.Departure.lateStores }, { on := 9, ground := Go.Ground.textOnly Go.Departure.lateStores }], guard := none }) rfl (fun K hK => ?_) AllReadyH.nil
  go_simp
  skip
  refine hK.out _ _ ?_ (fun hHeld => ?_)
  · exact (cells8 HLe.out.blk).2.1
  clear hK K
  (try simp only [Act.put, List.setIfInBounds_toArray, List.set_cons_zero, List.set_cons_succ])
  refine wpAnyH_take (i := 12) (oi := { dst := some 56, op := Go.Op.indexAddr 24 (Go.Operand.tmp 46) (Go.Operand.const (Go.Value.int Go.IntKind.i64 5)), type := 0, pos := "ref.go:54", after := #[{ on := 1, ground := Go.Ground.data }, { on := 0, ground := Go.Ground.phase }, { on := 1, ground := Go.Ground.phase }, { on := 2, ground := Go.Ground.phase }, { on := 3, ground := Go.Ground.phase }, { on := 4, ground := Go.Ground.phase }, { on := 5, ground := Go.Ground.phase }, { on := 6, ground := Go.Ground.phase }, { on := 7, ground := Go.Ground.phase }, { on := 8, ground := Go.Ground.phase }, { on := 9, ground := Go.Ground.phase }, { on := 10, ground := Go.Ground.phase }, { on := 11, ground := Go.Ground.phase }], guard := none }) (v := ?_) rfl (by kernel_rfl) (by kernel_rfl) (by kernel_rfl) (fun _ _ _ h => h) (Or.inl ⟨by rfl, ?_⟩) (by assumption) ?_
  rotate_left 1
  · intro w' hSw; (go_simp <;> (with_reducible rfl))
  (try simp only [Act.put, List.setIfInBounds_toArray, List.set_cons_zero, List.set_cons_succ])
  refine wpAnyH_ready (rs := [13]) (by kernel_rfl) (by simp) ?_
  refine AllReadyH.cons (o := { dst := none, op := Go.Op.store 5 (Go.Operand.tmp 56) (Go.Operand.tmp 54), type := 0, pos := "ref.go:54", after := #[{ on := 12, ground := Go.Ground.data }, { on := 9, ground := Go.Ground.data }, { on := 11, ground := Go.Ground.chain }, { on := 0, ground := Go.Ground.phase }, { on := 1, ground := Go.Ground.phase }, { on := 2, ground := Go.Ground.phase }, { on := 3, ground := Go.Ground.phase }, { on := 4, ground := Go.Ground.phase }, { on := 5, ground := Go.Ground.phase }, { on := 6, ground := Go.Ground.phase }, { on := 7, ground := Go.Ground.phase }, { on := 8, ground := Go.Ground.phase }, { on := 9, ground := Go.Ground.phase }, { on := 10, ground := Go.Ground.phase }, { on := 11, ground := Go.Ground.phase }], guard := none }) rfl (fun K hK => ?_) AllReadyH.nil
  go_simp
  skip
  refine hK.out _ _ ?_ (fun hHeld => ?_)
  · exact (cells8 HL4.out.blk).2.1
  clear hK K
  (try simp only [Act.put, List.setIfInBounds_toArray, List.set_cons_zero, List.set_cons_succ])
  refine wpAnyH_done (by kernel_rfl) ?_ _
  clear hcx hfx hcy hfy hix4 hix5 hHeld HLd HLe HL3
  obtain ⟨v4, ev⟩ : ∃ v, (vd.setCell ⟨g, 4, none⟩ (.int .u8 (id_ / 256))).setCell ⟨g, 5, none⟩ (.int .u8 (id_ % 256)) = v := ⟨_, rfl⟩
  rw [ev] at HL4 ⊢
  clear ev
  obtain ⟨a0, ea0⟩ : ∃ x, 64 + (20 + (n : Int)) / 4 = x := ⟨_, rfl⟩
  obtain ⟨a2, ea2⟩ : ∃ x, (20 + (n : Int) + (n' : Int)) / 256 = x := ⟨_, rfl⟩
  obtain ⟨a3, ea3⟩ : ∃ x, (20 + (n : Int) + (n' : Int)) % 256 = x := ⟨_, rfl⟩
  have hl4 : ((((((List.replicate 20 (0 : Int)).set 0 a0).set 1 to_).set 2 a2).set 3 a3).set 4 (id_ / 256)).set 5 (id_ % 256) = [a0, to_, a2, a3, id_ / 256, id_ % 256, 0, 0, 0, 0, 0, 0, 0, 0, 0, 0, 0, 0, 0, 0] := rfl
  rw [ea0, ea2, ea3, hl4] at HL4
  have Ea0 := Lib.hid ea0
  have Ea2 := Lib.hid ea2
  have Ea3 := Lib.hid ea3
  clear hl4
  obtain ⟨F, eF⟩ : ∃ F : Int, F = if df = true then 64 else 0 := ⟨_, rfl⟩
  have EF := Lib.hid eF
  obtain ⟨c0, c1, c2, c3, c4, c5, c6, c7⟩ := cells8 HL4.out.blk
  go_upto_if 58 with (fail)
  clear c0 c1 c2 c3 c4 c5 c6 c7
  go_cut [8] (fun s8 wx => s8 = .slice (some ⟨g, 0, none⟩) 20 20 ∧ Hid (Lay4 w1 z g #[.int .u8 to_, .int .u16 id_, .bool df, .int .u8 tt, .int .u8 pr, .int .u32 sr, .int .u32 ds, .slice A n c] [a0, to_, a2, a3, id_ / 256, id_ % 256, F, 0, 0, 0, 0, 0, 0, 0, 0, 0, 0, 0, 0, 0] wx))
  case first =>
    obtain ⟨c0, c1, c2, c3, c4, c5, c6, c7⟩ := cells8 HL4.out.blk
    obtain ⟨-, hcx, hfx⟩ := own_index HL4.out.own 6 6 (by omega) rfl
    cases df with
    | true =>
      have HLt := Lib.hid (HL4.out.set_ hzg 6 64)
      go_wp2_with fail
      go_meet
      exact ⟨rfl, Lib.hid (by have h := HLt.out; simp only [List.set_cons_succ, List.set_cons_zero] at h; rw [show F = 64 by rw [eF]; simp]; exact h)⟩
    | false =>
      go_wp2_with fail
      go_meet
      exact ⟨rfl, by rw [show F = 0 by rw [eF]; simp]; exact HL4⟩
  case rest =>
    obtain ⟨rfl, HL6⟩ := hcut
    clear HL4 eF ea0 ea2 ea3
    obtain ⟨v6, ev6⟩ : ∃ v, wc = v := ⟨_, rfl⟩
    rw [ev6] at HL6 ⊢
    clear ev6
    obtain ⟨L6, eL6⟩ : ∃ L : List Int, L = [a0, to_, a2, a3, id_ / 256, id_ % 256, F, 0, 0, 0, 0, 0, 0, 0, 0, 0, 0, 0, 0, 0] := ⟨_, rfl⟩
    rw [← eL6] at HL6
    go_upto_region 14 with (fail)
    have HLd := Lib.hid HL6.out.drew
    refine wp_region_held_drew (S := fun w' => w'.cell? ⟨z, 3, none⟩ = some (.int .u8 tt) ∧ w'.cell? ⟨z, 4, none⟩ = some (.int .u8 pr)) (by kernel_rfl) ((fun h => ⟨(cells8 h).2.2.2.1, (cells8 h).2.2.2.2.1⟩) HLd.out.blk) (fun hHeld => ?_)
    obtain ⟨vd, evd⟩ : ∃ vd, v6.drew = vd := ⟨_, rfl⟩
    rw [evd] at HLd hHeld ⊢
    clear evd
    obtain ⟨hix8, hcx, hfx⟩ := own_index HLd.out.own 8 8 (by omega) rfl
    have HLe := Lib.hid (HLd.out.set_ hzg 8 (tt))
    obtain ⟨hix9, hcy, hfy⟩ := own_index HLd.out.own 9 9 (by omega) rfl
    have HL7 := Lib.hid (HLe.out.set_ hzg 9 (pr))
    refine wpAnyH_take (i := 0) (oi := { dst := some 61, op := Go.Op.move (Go.Operand.tmp 8), type := 24, pos := "ref.go:58", after := #[], guard := none }) (v := ?_) rfl (by kernel_rfl) (by kernel_rfl) (by kernel_rfl) (fun _ _ _ h => h) (Or.inl ⟨by rfl, ?_⟩) (by assumption) ?_
    rotate_left 1
    · intro w' hSw; (go_simp <;> (with_reducible rfl))
    (try simp only [Act.put, List.setIfInBounds_toArray, List.set_cons_zero, List.set_cons_succ])
    refine wpAnyH_take (i := 1) (oi := { dst := some 62, op := Go.Op.move (Go.Operand.tmp 8), type := 24, pos := "ref.go:58", after := #[{ on := 7, ground := Go.Ground.gcOnly Go.Departure.lateStores }], guard := none }) (v := ?_) rfl (by kernel_rfl) (by kernel_rfl) (by kernel_rfl) (fun _ _ _ h => h) (Or.inl ⟨by rfl, ?_⟩) (by assumption) ?_
    rotate_left 1
    · intro w' hSw; (go_simp <;> (with_reducible rfl))
    (try simp only [Act.put, List.setIfInBounds_toArray, List.set_cons_zero, List.set_cons_succ])
    refine wpAnyH_take (i := 2) (oi := { dst := some 63, op := Go.Op.fieldAddr 26 (Go.Operand.tmp 2) 3, type := 0, pos := "ref.go:58", after := #[], guard := none }) (v := ?_) rfl (by kernel_rfl) (by kernel_rfl) (by kernel_rfl) (fun _ _ _ h => h) (Or.inl ⟨by rfl, ?_⟩) (by assumption) ?_
    rotate_left 1
    · intro w' hSw; (go_simp <;> (with_reducible rfl))
    (try simp only [Act.put, List.setIfInBounds_toArray, List.set_cons_zero, List.set_cons_succ])
    refine wpAnyH_take (i := 3) (oi := { dst := some 64, op := Go.Op.load 5 (Go.Operand.tmp 63), type := 5, pos := "ref.go:58", after := #[{ on := 2, ground := Go.Ground.data }], guard := none }) (v := ?_) rfl (by kernel_rfl) (by kernel_rfl) (by kernel_rfl) (fun _ _ _ h => h) (Or.inl ⟨by rfl, ?_⟩) (by assumption) ?_
    rotate_left 1
    · intro w' hSw; (go_simp <;> (with_reducible rfl))
    (try simp only [Act.put, List.setIfInBounds_toArray, List.set_cons_zero, List.set_cons_succ])
    refine wpAnyH_take (i := 4) (oi := { dst := some 65, op := Go.Op.fieldAddr 26 (Go.Operand.tmp 2) 4, type := 0, pos := "ref.go:58", after := #[{ on := 7, ground := Go.Ground.gcOnly Go.Departure.lateStores }], guard := none }) (v := ?_) rfl (by kernel_rfl) (by kernel_rfl) (by kernel_rfl) (fun _ _ _ h => h) (Or.inl ⟨by rfl, ?_⟩) (by assumption) ?_
    rotate_left 1
    · intro w' hSw; (go_simp <;> (with_reducible rfl))
    (try simp only [Act.put, List.setIfInBounds_toArray, List.set_cons_zero, List.set_cons_succ])
    refine wpAnyH_take (i := 5) (oi := { dst := some 66, op := Go.Op.load 5 (Go.Operand.tmp 65), type := 5, pos := "ref.go:58", after := #[{ on := 4, ground := Go.Ground.data }, { on := 7, ground := Go.Ground.gcOnly Go.Departure.lateStores }], guard := none }) (v := ?_) rfl (by kernel_rfl) (by kernel_rfl) (by kernel_rfl) (fun _ _ _ h => h) (Or.inl ⟨by rfl, ?_⟩) (by assumption) ?_
    rotate_left 1
    · intro w' hSw; (go_simp <;> (with_reducible rfl))
    (try simp only [Act.put, List.setIfInBounds_toArray, List.set_cons_zero, List.set_cons_succ])
    refine wpAnyH_take (i := 6) (oi := { dst := some 67, op := Go.Op.indexAddr 24 (Go.Operand.tmp 61) (Go.Operand.const (Go.Value.int Go.IntKind.i64 8)), type := 0, pos := "ref.go:58", after := #[{ on := 0, ground := Go.Ground.data }, { on := 0, ground := Go.Ground.phase }, { on := 1, ground := Go.Ground.textOnly Go.Departure.lateStores }, { on := 2, ground := Go.Ground.phase }, { on := 3, ground := Go.Ground.phase }, { on := 4, ground := Go.Ground.textOnly Go.Departure.lateStores }, { on := 5, ground := Go.Ground.textOnly Go.Departure.lateStores }], guard := none }) (v := ?_) rfl (by kernel_rfl) (by kernel_rfl) (by kernel_rfl) (fun _ _ _ h => h) (Or.inl ⟨by rfl, ?_⟩) (by assumption) ?_
    rotate_left 1
    · intro w' hSw; (go_simp <;> (with_reducible rfl))
    (try simp only [Act.put, List.setIfInBounds_toArray, List.set_cons_zero, List.set_cons_succ])
    refine wpAnyH_ready (rs := [7]) (by kernel_rfl) (by simp) ?_
    refine AllReadyH.cons (o := { dst := none, op := Go.Op.store 5 (Go.Operand.tmp 67) (Go.Operand.tmp 64), type := 0, pos := "ref.go:58", after := #[{ on := 6, ground := Go.Ground.data }, { on := 3, ground := Go.Ground.data }, { on := 0, ground := Go.Ground.phase }, { on := 1, ground := Go.Ground.textOnly Go.Departure.lateStores }, { on := 2, ground := Go.Ground.phase }, { on := 3, ground := Go.Ground.phase }, { on := 4, ground := Go.Ground.textOnly Go.Departure.lateStores }, { on := 5, ground := Go.Ground.textOnly Go.Departure.lateStores }], guard := none }) rfl (fun K hK => ?_) AllReadyH.nil
    go_simp
    skip
    refine hK.out _ _ ?_ (fun hHeld => ?_)
    · exact ⟨(cells8 HLe.out.blk).2.2.2.1, (cells8 HLe.out.blk).2.2.2.2.1⟩
    clear hK K
    (try simp only [Act.put, List.setIfInBounds_toArray, List.set_cons_zero, List.set_cons_succ])
    refine wpAnyH_take (i := 8) (oi := { dst := some 68, op := Go.Op.indexAddr 24 (Go.Operand.tmp 62) (Go.Operand.const (Go.Value.int Go.IntKind.i64 9)), type := 0, pos := "ref.go:58", after := #[{ on := 1, ground := Go.Ground.data }, { on := 0, ground := Go.Ground.phase }, { on := 1, ground := Go.Ground.phase }, { on := 2, ground := Go.Ground.phase }, { on := 3, ground := Go.Ground.phase }, { on := 4, ground := Go.Ground.phase }, { on := 5, ground := Go.Ground.phase }, { on := 6, ground := Go.Ground.phase }, { on := 7, ground := Go.Ground.phase }], guard := none }) (v := ?_) rfl (by kernel_rfl) (by kernel_rfl) (by kernel_rfl) (fun _ _ _ h => h) (Or.inl ⟨by rfl, ?_⟩) (by assumption) ?_
    rotate_left 1
    · intro w' hSw; (go_simp <;> (with_reducible rfl))
    (try simp only [Act.put, List.setIfInBounds_toArray, List.set_cons_zero, List.set_cons_succ])
    refine wpAnyH_ready (rs := [9]) (by kernel_rfl) (by simp) ?_
    refine AllReadyH.cons (o := { dst := none, op := Go.Op.store 5 (Go.Operand.tmp 68) (Go.Operand.tmp 66), type := 0, pos := "ref.go:58", after := #[{ on := 8, ground := Go.Ground.data }, { on := 5, ground := Go.Ground.data }, { on := 7, ground := Go.Ground.chain }, { on := 0, ground := Go.Ground.phase }, { on := 1, ground := Go.Ground.phase }, { on := 2, ground := Go.Ground.phase }, { on := 3, ground := Go.Ground.phase }, { on := 4, ground := Go.Ground.phase }, { on := 5, ground := Go.Ground.phase }, { on := 6, ground := Go.Ground.phase }, { on := 7, ground := Go.Ground.phase }], guard := none }) rfl (fun K hK => ?_) AllReadyH.nil
    go_simp
    skip
    refine hK.out _ _ ?_ (fun hHeld => ?_)
    · exact ⟨(cells8 HL7.out.blk).2.2.2.1, (cells8 HL7.out.blk).2.2.2.2.1⟩
    clear hK K
    (try simp only [Act.put, List.setIfInBounds_toArray, List.set_cons_zero, List.set_cons_succ])
    refine wpAnyH_done (by kernel_rfl) ?_ _
    clear hcx hfx hcy hfy hix8 hix9 hHeld HLd HLe HL6
    obtain ⟨v7, ev⟩ : ∃ v, (vd.setCell ⟨g, 8, none⟩ (.int .u8 (tt))).setCell ⟨g, 9, none⟩ (.int .u8 (pr)) = v := ⟨_, rfl⟩
    rw [ev] at HL7 ⊢
    clear ev
    subst eL6
    simp only [List.set_cons_succ, List.set_cons_zero] at HL7
    have HLw := Lib.hid (show Lay4 w1 z g #[.int .u8 to_, .int .u16 id_, .bool df, .int .u8 tt, .int .u8 pr, .int .u32 sr, .int .u32 ds, .slice A n c] (addr4 [a0, to_, a2, a3, id_ / 256, id_ % 256, F, 0, tt, pr, 0, 0] sr ds 0) v7 from HL7.out)
    clear HL7
    go_wp2_with fail
    go_loopg [9] 4 (fun gk i wr => ∃ j : Nat, Hid (gk + j = 4) ∧ j ≤ 4 ∧ i = .int .i64 (j : Int) ∧ Hid (Lay4 w1 z g #[.int .u8 to_, .int .u16 id_, .bool df, .int .u8 tt, .int .u8 pr, .int .u32 sr, .int .u32 ds, .slice A n c] (addr4 [a0, to_, a2, a3, id_ / 256, id_ % 256, F, 0, tt, pr, 0, 0] sr ds j) wr))
    case atStart => exact ⟨0, rfl, by omega, rfl, HLw⟩
    case round =>
      clear HLw
      obtain ⟨j, hgk, hj, rfl, hlw⟩ := hrel
      by_cases hj4 : j < 4
      · have hj0 : j = 0 ∨ j = 1 ∨ j = 2 ∨ j = 3 := by omega
        obtain rfl : gk = 4 - j := by have := hgk.out; omega
        clear hgk hj hj4
        obtain ⟨c0, c1, c2, c3, c4, c5, c6, c7⟩ := cells8 hlw.out.blk
        obtain ⟨n50, n51⟩ := n5
        obtain ⟨n40, n41⟩ := n4
        rcases hj0 with rfl | rfl | rfl | rfl
        ·
          obtain ⟨hix, hcx, hfx⟩ := own_index hlw.out.own 12 12 (by omega) rfl
          obtain ⟨hiy, hcy, hfy⟩ := own_index hlw.out.own 16 16 (by omega) rfl
          have HLn := Lib.hid ((hlw.out.set_ hzg 12 (sr / 16777216)).set_ hzg 16 (ds / 16777216))
          go_wp2_with fail
          go_roundg (4 - 1)
          case measure => omega
          case rel => exact ⟨1, (show 4 - 1 + 1 = 4 by omega), by omega, by go_num, HLn⟩
        ·
          obtain ⟨hix, hcx, hfx⟩ := own_index hlw.out.own 13 13 (by omega) rfl
          obtain ⟨hiy, hcy, hfy⟩ := own_index hlw.out.own 17 17 (by omega) rfl
          have HLn := Lib.hid ((hlw.out.set_ hzg 13 (sr / 65536 % 256)).set_ hzg 17 (ds / 65536 % 256))
          go_wp2_with fail
          go_roundg (4 - 2)
          case measure => omega
          case rel => exact ⟨2, (show 4 - 2 + 2 = 4 by omega), by omega, by go_num, HLn⟩
        ·
          obtain ⟨hix, hcx, hfx⟩ := own_index hlw.out.own 14 14 (by omega) rfl
          obtain ⟨hiy, hcy, hfy⟩ := own_index hlw.out.own 18 18 (by omega) rfl
          have HLn := Lib.hid ((hlw.out.set_ hzg 14 (sr / 256 % 256)).set_ hzg 18 (ds / 256 % 256))
          go_wp2_with fail
          go_roundg (4 - 3)
          case measure => omega
          case rel => exact ⟨3, (show 4 - 3 + 3 = 4 by omega), by omega, by go_num, HLn⟩
        ·
          obtain ⟨hix, hcx, hfx⟩ := own_index hlw.out.own 15 15 (by omega) rfl
          obtain ⟨hiy, hcy, hfy⟩ := own_index hlw.out.own 19 19 (by omega) rfl
          have HLn := Lib.hid ((hlw.out.set_ hzg 15 (sr % 256)).set_ hzg 19 (ds % 256))
          go_wp2_with fail
          go_roundg (4 - 4)
          case measure => omega
          case rel => exact ⟨4, (show 4 - 4 + 4 = 4 by omega), by omega, by go_num, HLn⟩
      · obtain rfl : j = 4 := by omega
        clear hgk hj hj4
        have hlow := hlw.out.low
        have hrow := hlw.out.own
        have hkz := hlw.out.blk
        obtain ⟨Lh, eLh⟩ : ∃ L, addr4 [a0, to_, a2, a3, id_ / 256, id_ % 256, F, 0, tt, pr, 0, 0] sr ds 4 = L := ⟨_, rfl⟩
        rw [eLh] at hrow
        have hLhb : ∀ x ∈ Lh, 0 ≤ x ∧ x < 256 := by
          have e0 := Ea0.out; have e2 := Ea2.out; have e3 := Ea3.out
          have hF : F = 0 ∨ F = 64 := by rw [EF.out]; split <;> simp
          rw [← eLh]
          intro x hx
          simp [addr4, b32] at hx
          rcases hF with hF | hF <;> omega
        have hLhl : Lh.length = 20 := by rw [← eLh]; rfl
        have hlist := lay4_list to_ id_ tt pr sr ds df o p n n' a0 a2 a3 F (by have := Hr.out.len; exact this) (by have := Hr'.out.len; exact this) Ea0.out Ea2.out Ea3.out EF.out Lh eLh
        obtain ⟨f, ef⟩ : ∃ f, 65535 - sumL (Lh ++ o) = f := ⟨_, rfl⟩
        rw [ef] at hlist
        have Hlist := Lib.hid hlist
        have hfb := sumL_bd (Lh ++ o)
        have Hf := Lib.hid (show 0 ≤ f ∧ f < 65536 by omega)
        have hgs : g ≤ wr.heap.size := by have := hlow.size; have := Eg.out; omega
        have hrA : Rd wr A n o := Hr.out.below (by rw [Eg.out]; exact hlow)
        have HrA := Lib.hid hrA
        have HLhb := Lib.hid hLhb
        have Hob := Lib.hid hrA.byte
        have Hlow := Lib.hid hlow
        have Hrow := Lib.hid hrow
        have Ef := Lib.hid ef
        have hn140 : 20 + n ≤ 140737488355328 := by omega
        clear hrA hLhb hlist hfb hlow hrow eLh ef hlw
        obtain ⟨c0, c1, c2, c3, c4, c5, c6, c7⟩ := cells8 hkz
        go_upto_region 21 with (refine wpList_app rfl (.tmp 95) (.tmp 97) rfl g (some ⟨g, 0, none⟩) A 20 20 n c Lh o rfl rfl Hrow.out HrA.out hn140 hgs ?_; intro A5 k5 w5 ho5 hg5 hb5 hat5)
        clear c0 c1 c2 c3 c4 c5 c6 c7 hkz
        have hlb : ∀ x ∈ Lh ++ o, 0 ≤ x ∧ x < 256 := fun x hx => (List.mem_append.1 hx).elim (HLhb.out x) (Hob.out x)
        obtain ⟨g5, rfl, hg5B, hg5w⟩ := ho5.addr (by omega)
        have HF := Lib.hid (rfield_any (some ⟨g5, 0, none⟩) (20 + n) k5 (Lh ++ o) w5 (by omega) (ho5.rd hlb))
        rw [Ef.out] at HF
        have Hlow := Lib.hid (Hlow.out.trans hb5)
        obtain ⟨hixa, hca, hfa⟩ := own_index ho5 10 10 (by omega) rfl
        obtain ⟨hixb, hcb, hfb⟩ := own_index ho5 11 11 (by omega) rfl
        have HO5 := Lib.hid ((ho5.set_ 10 (f / 256)).set_ 11 (f % 256))
        have HlowS := Lib.hid ((Hlow.out.setCell (p := ⟨g5, 10, none⟩) hg5B (.int .u8 (f / 256))).setCell (p := ⟨g5, 11, none⟩) hg5B (.int .u8 (f % 256)))
        have hk5 : 20 + n ≤ k5 := ho5.cap
        have hki : 20 + (n : Int) ≤ (k5 : Int) := by omega
        obtain ⟨hf0, hf1⟩ := Hf.out
        have hv0 : Int.tdiv f 256 = f / 256 := Int.tdiv_eq_ediv_of_nonneg hf0
        have hv1 : Int.tmod f 256 = f % 256 := Int.tmod_eq_emod_of_nonneg hf0
        have hv2 : IntKind.u16.wrap (f / 256) = f / 256 := by (simp [IntKind.wrap, IntKind.bits, IntKind.signed] <;> omega)
        have hv3 : IntKind.u8.wrap (f / 256) = f / 256 := by (simp [IntKind.wrap, IntKind.bits, IntKind.signed] <;> omega)
        have hv4 : IntKind.u16.wrap (f % 256) = f % 256 := by (simp [IntKind.wrap, IntKind.bits, IntKind.signed] <;> omega)
        have hv5 : IntKind.u8.wrap (f % 256) = f % 256 := by (simp [IntKind.wrap, IntKind.bits, IntKind.signed] <;> omega)
        clear ho5 hg5 hb5 hat5 Hrow HrA hlb hg5w
        go_wp2_with fail
        refine HF.out.mono ?_
        rintro e w6 ⟨rfl, rfl⟩
        go_upto_region 23 with (fail)
        obtain ⟨v8, ev8⟩ : ∃ v, (w5.setCell ⟨g5, 10, none⟩ (.int .u8 (f / 256))).setCell ⟨g5, 11, none⟩ (.int .u8 (f % 256)) = v := ⟨_, rfl⟩
        try rw [ev8]
        rw [ev8] at HO5 HlowS
        clear ev8 hca hcb hfa hfb hixa hixb hv0 hv1 hv2 hv3 hv4 hv5
        have hgs8 : g ≤ v8.heap.size := by have := HlowS.out.size; have := Eg.out; omega
        have HrP := Lib.hid (Hr'.out.below (by rw [Eg.out]; exact HlowS.out))
        have hn141 : 20 + n + n' ≤ 140737488355328 := by omega
        go_wp2_with (refine wpList_app rfl (.tmp 111) (.tmp 112) rfl g (some ⟨g5, 0, none⟩) A' (20 + n) k5 n' c' _ p rfl rfl HO5.out HrP.out hn141 hgs8 ?_; intro A9 k9 w9 ho9 hg9 hb9 hat9)
        rw [Hlist.out] at ho9
        have hbb := below_trans Hb.out (show Below w1.heap.size w1 w9 by rw [Eg.out]; exact HlowS.out.trans hb9)
        have Hbb := Lib.hid hbb
        have Ho9 := Lib.hid (ho9.mono (B' := w.heap.size) (by have := Hb.out.size; have := Eg.out; omega))
        have h9 := ho9.cap
        have h9m := ho9.capMax
        clear hbb ho9 hg9 hb9 hat9
        go_ret2
        exact ⟨A9, k9, rfl, h9, h9m, Ho9.out, Hbb.out⟩
end Go.Proofs.YtkooehejdfaekaaGreat

/-
  A whole struct of many cells into the block that was made last, as one operation of a walk (cell by cell it is more than the kernel's memory from some 20 cells on). No function of the program.
-/
namespace Go.Proofs.YtkooehejdfaekaaGreat
set_option maxRecDepth 10000
open Go.RowKit

theorem wp_store_new {P : Program} {o : Oper} {a : Act} {K : Act → World → Prop} {Q : Exit → Act → World → Prop} (t : TypeId) (p x : Operand) (ho : o.op = .store t p x) (hd : o.dst = none) (W : World) (c c' : Array Value)
    (hp : a.eval p = .pointer (some ⟨W.heap.size, 0, none⟩)) (hx : a.eval x = .agg c') (hi : (P.info? t).map (·.size) = some c'.size) (hs : c.size = c'.size) (h1 : c'.all (·.oneCell') = true)
    (h : K a (W.alloc (.cells c' t))) : o.wp P a (W.alloc (.cells c t)) K Q := by
  unfold Oper.wp execOp
  simp only [ho, hp, hx, Sem.run_bind, run_storeAt_new W t c c' hi hs h1, Result.andThen_ok, Sem.run_pure]
  rw [Oper.upon_skip, hd]
  exact h
/-- A whole struct out of its block. -/
theorem wp_load_row {P : Program} {o : Oper} {a : Act} {w : World} {K : Act → World → Prop} {Q : Exit → Act → World → Prop} (t : TypeId) (p : Operand) (ho : o.op = .load t p) (g : Nat) (cs : Array Value) (ty : TypeId) (fr : Nat × Nat) (d : TypeDesc)
    (hg : w.heap[g]? = some (.cells cs ty fr)) (hp : a.eval p = .pointer (some ⟨g, 0, none⟩)) (hu : P.underlying t = some d) (hd : (match d with | .struct _ | .array _ _ => true | _ => false) = true) (hi : (P.info? t).map (·.size) = some cs.size)
    (h : K (a.put o.dst (.agg cs)) w) : o.wp P a w K Q := by
  unfold Oper.wp execOp
  simp only [ho, hp, Instr.loadAt, Instr.sureAddr, Sem.run_bind, Sem.run_pure, Result.andThen, run_loadVar_row w g ty t cs fr d hg hu hd hi]
  rw [Oper.upon_value]
  exact h
end Go.Proofs.YtkooehejdfaekaaGreat
