/-
  TcpFields holds: each field of a segment stands at its place: with one changed, just its bytes and the field of the sum are others; Length is Data's, and one of Syn, one of Fin.
-/
import Derived.Test.YtpinjbnbpcmfbaaTcpLaw
import Derived.Test.YtpinjbnbpcmfbaaQuiet
import Derived.RegionTactic
import Derived.BigRegion
import Derived.Deep.RegionHeld3
import Derived.Deep.DeepCutAuto
namespace Go.Proofs.Ytpinjbnbpcmfbaa.tcpFields
set_option maxRecDepth 10000
open Go.ChangeShapes Go.WideShapes Go.ChangeAt Go.RowKit
set_option linter.unusedVariables false
set_option linter.unusedSimpArgs false

def SameIs (x : Bool) (w : World) (e : Ending) (w' : World) : Prop := e = .returned (.bool x) ∧ ∃ k, w' = w.drewN k

theorem strs_eq (a b : List Int) (ha : Bytes a) (hb : Bytes b) : ((strOfNums a).toList == (strOfNums b).toList) = decide (a = b) := by
  rw [ByteArray.toList_eq, ByteArray.toList_eq]
  by_cases e : a = b
  · subst e; simp
  · rw [beq_eq_false_iff_ne.2 (fun x => e (nums_inj _ _ ha hb (by simpa [strOfNums_data] using x)))]
    simp [e]

theorem same_told (p q g g' c c' m a t : Nat) (L L' : List Int) (x : Bool) (w : World) (hat : a < t) (htm : t ≤ m) (hc : m ≤ c) (hc' : m ≤ c')
    (hp : Box w p 25 (.slice (some ⟨g, 0, none⟩) m c)) (hq : Box w q 25 (.slice (some ⟨g', 0, none⟩) m c'))
    (h : Rd w (some ⟨g, 0, none⟩) m L) (h' : Rd w (some ⟨g', 0, none⟩) m L') (hx : decide ((L.take t).drop a = (L'.take t).drop a) = x) :
    Calls Try.prog 24 #[.int .i64 (a : Int), .int .i64 (t : Int), .pointer (some ⟨p, 0, none⟩), .pointer (some ⟨q, 0, none⟩)] w (SameIs x w) := by
  obtain ⟨d, rfl⟩ : ∃ d, t = a + d := ⟨t - a, by omega⟩
  have hpc := hp.cell
  have hqc := hq.cell
  have hr := (h.take htm).drop_ rfl (k := a) (m := d) rfl
  have hr' := (h'.take htm).drop_ rfl (k := a) (m := d) rfl
  have k1 := fun k => conv_rd (Rd.below hr (below_drewN (Below.refl _ _) k)) (c - a)
  have k2 := fun k => conv_rd (Rd.below hr' (below_drewN (Below.refl _ _) k)) (c' - a)
  have hse := strs_eq _ _ hr.byte hr'.byte
  obtain ⟨s1, e1⟩ : ∃ s1, strOfNums ((L.take (a + d)).drop a) = s1 := ⟨_, rfl⟩
  obtain ⟨s2, e2⟩ : ∃ s2, strOfNums ((L'.take (a + d)).drop a) = s2 := ⟨_, rfl⟩
  rw [e1] at k1 hse
  rw [e2] at k2 hse
  rw [hx] at hse
  simp only [Nat.zero_add] at k1 k2
  clear e1 e2 hx h h' hr hr' hp hq
  have i0 : (0 : Int) ≤ (a : Int) := by omega
  have i1 : (a : Int) ≤ ((a + d : Nat) : Int) := by omega
  have i2 : ((a + d : Nat) : Int) ≤ (c : Int) := by omega
  have i3 : ((a + d : Nat) : Int) ≤ (c' : Int) := by omega
  have i4 : ¬ a = c := by omega
  have i5 : ¬ a = c' := by omega
  go_enter Try.func24, Try.ntmps24
  go_wp2_with fail
  go_quiet (fail)
  go_wp2_with fail
  go_ret
  exact ⟨rfl, nq, rfl⟩

theorem same_empty (p q g g' c c' a : Nat) (w : World) (hc : a ≤ c) (hc' : a ≤ c') (hcm : c ≤ maxLen) (hcm' : c' ≤ maxLen)
    (hp : Box w p 25 (.slice (some ⟨g, 0, none⟩) a c)) (hq : Box w q 25 (.slice (some ⟨g', 0, none⟩) a c')) :
    Calls Try.prog 24 #[.int .i64 (a : Int), .int .i64 (a : Int), .pointer (some ⟨p, 0, none⟩), .pointer (some ⟨q, 0, none⟩)] w (SameIs true w) := by
  have hpc := hp.cell
  have hqc := hq.cell
  have k1 := fun A c k => conv_rd (Rd.nil (w.drewN k) A) c
  obtain ⟨s1, e1⟩ : ∃ s1, strOfNums [] = s1 := ⟨_, rfl⟩
  rw [e1] at k1
  clear e1 hp hq
  unfold maxLen at hcm hcm'
  have i0 : (0 : Int) ≤ (a : Int) := by omega
  have i2 : (a : Int) ≤ (c : Int) := by omega
  have i3 : (a : Int) ≤ (c' : Int) := by omega
  by_cases i4 : a = c
  · subst i4
    by_cases i5 : a = c'
    · subst i5
      go_enter Try.func24, Try.ntmps24
      go_wp2_with fail
      go_quiet (fail)
      go_wp2_with fail
      go_ret
      exact ⟨rfl, nq, rfl⟩
    · go_enter Try.func24, Try.ntmps24
      go_wp2_with fail
      go_quiet (fail)
      go_wp2_with fail
      go_ret
      exact ⟨rfl, nq, rfl⟩
  · by_cases i5 : a = c'
    · subst i5
      go_enter Try.func24, Try.ntmps24
      go_wp2_with fail
      go_quiet (fail)
      go_wp2_with fail
      go_ret
      exact ⟨rfl, nq, rfl⟩
    · go_enter Try.func24, Try.ntmps24
      go_wp2_with fail
      go_quiet (fail)
      go_wp2_with fail
      go_ret
      exact ⟨rfl, nq, rfl⟩
theorem same_at (p q g g' c c' m a t : Nat) (ai ti : Int) (L L' : List Int) (x : Bool) (w : World) (ha : ai = (a : Int)) (ht : ti = (t : Int)) (hat : a < t) (htm : t ≤ m) (hc : m ≤ c) (hc' : m ≤ c')
    (hp : Box w p 25 (.slice (some ⟨g, 0, none⟩) m c)) (hq : Box w q 25 (.slice (some ⟨g', 0, none⟩) m c'))
    (h : Rd w (some ⟨g, 0, none⟩) m L) (h' : Rd w (some ⟨g', 0, none⟩) m L') (hx : decide ((L.take t).drop a = (L'.take t).drop a) = x) :
    Calls Try.prog 24 #[.int .i64 ai, .int .i64 ti, .pointer (some ⟨p, 0, none⟩), .pointer (some ⟨q, 0, none⟩)] w (SameIs x w) := by
  subst ha ht; exact same_told p q g g' c c' m a t L L' x w hat htm hc hc' hp hq h h' hx
theorem same_rest (p q g g' c c' m : Nat) (L L' : List Int) (w : World) (hm : 20 ≤ m) (hc : m ≤ c) (hc' : m ≤ c') (hcm : c ≤ maxLen) (hcm' : c' ≤ maxLen)
    (hx : decide ((L.take m).drop 20 = (L'.take m).drop 20) = true)
    (hp : Box w p 25 (.slice (some ⟨g, 0, none⟩) m c)) (hq : Box w q 25 (.slice (some ⟨g', 0, none⟩) m c'))
    (h : Rd w (some ⟨g, 0, none⟩) m L) (h' : Rd w (some ⟨g', 0, none⟩) m L') :
    Calls Try.prog 24 #[.int .i64 20, .int .i64 (m : Int), .pointer (some ⟨p, 0, none⟩), .pointer (some ⟨q, 0, none⟩)] w (SameIs true w) := by
  rcases Nat.lt_or_ge 20 m with h20 | h20
  · exact same_told p q g g' c c' m 20 m L L' true w h20 (Nat.le_refl _) hc hc' hp hq h h' hx
  · obtain rfl : m = 20 := by omega
    exact same_empty p q g g' c c' 20 w hc hc' hcm hcm' hp hq


/-- What the last test holds on to. -/
structure Held (sp dp sq ak fl wn ug sp' dp' sq' ak' fl' wn' ug' : Int) (AO : Option Addr) (nO cO : Nat) (AD : Option Addr) (nD cD hb kb pb qb g g' m c1 c2 : Nat) (L L' : List Int) (w0 w : World) : Prop where
  hh : w.heap[hb]? = some (.cells #[.int .u16 sp, .int .u16 dp, .int .u32 sq, .int .u32 ak, .int .u8 fl, .int .u16 wn, .int .u16 ug, .slice AO nO cO, .slice AD nD cD] 27 (0, 0))
  hk : w.heap[kb]? = some (.cells #[.int .u16 sp', .int .u16 dp', .int .u32 sq', .int .u32 ak', .int .u8 fl', .int .u16 wn', .int .u16 ug', .slice AO nO cO, .slice AD nD cD] 27 (0, 0))
  bp : Box w pb 25 (.slice (some ⟨g, 0, none⟩) m c1)
  bq : Box w qb 25 (.slice (some ⟨g', 0, none⟩) m c2)
  r1 : Rd w (some ⟨g, 0, none⟩) m L
  r2 : Rd w (some ⟨g', 0, none⟩) m L'
  old : Below w0.heap.size w0 w
section
variable {sp dp sq ak fl wn ug sp' dp' sq' ak' fl' wn' ug' : Int} {AO : Option Addr} {nO cO : Nat} {AD : Option Addr} {nD cD hb kb pb qb g g' m c1 c2 : Nat} {L L' : List Int} {w0 w w' : World}
theorem Held.drewN_ (h : Held sp dp sq ak fl wn ug sp' dp' sq' ak' fl' wn' ug' AO nO cO AD nD cD hb kb pb qb g g' m c1 c2 L L' w0 w) {k : Nat} (e : w' = w.drewN k) : Held sp dp sq ak fl wn ug sp' dp' sq' ak' fl' wn' ug' AO nO cO AD nD cD hb kb pb qb g g' m c1 c2 L L' w0 w' := by
  subst e
  exact ⟨h.hh, h.hk, h.bp, h.bq, h.r1.below (below_drewN (Below.refl _ _) k), h.r2.below (below_drewN (Below.refl _ _) k), ⟨h.old.os, h.old.tape, h.old.output, h.old.size, h.old.block⟩⟩
theorem Held.drew (h : Held sp dp sq ak fl wn ug sp' dp' sq' ak' fl' wn' ug' AO nO cO AD nD cD hb kb pb qb g g' m c1 c2 L L' w0 w) : Held sp dp sq ak fl wn ug sp' dp' sq' ak' fl' wn' ug' AO nO cO AD nD cD hb kb pb qb g g' m c1 c2 L L' w0 w.drew := h.drewN_ (k := 1) rfl
theorem Held.on (h : Held sp dp sq ak fl wn ug sp' dp' sq' ak' fl' wn' ug' AO nO cO AD nD cD hb kb pb qb g g' m c1 c2 L L' w0 w) (hbl : Below w.heap.size w w') : Held sp dp sq ak fl wn ug sp' dp' sq' ak' fl' wn' ug' AO nO cO AD nD cD hb kb pb qb g g' m c1 c2 L L' w0 w' :=
  ⟨blk_on h.hh hbl, blk_on h.hk hbl, blk_on h.bp hbl, blk_on h.bq hbl, h.r1.below hbl, h.r2.below hbl, below_trans h.old hbl⟩
theorem Held.cells (h : Held sp dp sq ak fl wn ug sp' dp' sq' ak' fl' wn' ug' AO nO cO AD nD cD hb kb pb qb g g' m c1 c2 L L' w0 w) : w.cell? ⟨hb, 0, none⟩ = some (.int .u16 sp) ∧ w.cell? ⟨hb, 1, none⟩ = some (.int .u16 dp) ∧ w.cell? ⟨hb, 2, none⟩ = some (.int .u32 sq) ∧ w.cell? ⟨hb, 3, none⟩ = some (.int .u32 ak) ∧ w.cell? ⟨hb, 4, none⟩ = some (.int .u8 fl) ∧ w.cell? ⟨hb, 5, none⟩ = some (.int .u16 wn) ∧ w.cell? ⟨hb, 6, none⟩ = some (.int .u16 ug) ∧ w.cell? ⟨hb, 7, none⟩ = some (.slice AO nO cO) ∧ w.cell? ⟨hb, 8, none⟩ = some (.slice AD nD cD) ∧ w.cell? ⟨kb, 0, none⟩ = some (.int .u16 sp') ∧ w.cell? ⟨kb, 1, none⟩ = some (.int .u16 dp') ∧ w.cell? ⟨kb, 2, none⟩ = some (.int .u32 sq') ∧ w.cell? ⟨kb, 3, none⟩ = some (.int .u32 ak') ∧ w.cell? ⟨kb, 4, none⟩ = some (.int .u8 fl') ∧ w.cell? ⟨kb, 5, none⟩ = some (.int .u16 wn') ∧ w.cell? ⟨kb, 6, none⟩ = some (.int .u16 ug') ∧ w.cell? ⟨pb, 0, none⟩ = some (.slice (some ⟨g, 0, none⟩) m c1) := by
  have a := blk_cell h.hh
  have b := blk_cell h.hk
  have p := h.bp.cell
  simp [a, b, p]
end

/-- Two segments' bytes, of the same options and data, part by part. -/
structure PartsT (L L' : List Int) (sp dp sq ak fl wn ug sp' dp' sq' ak' fl' wn' ug' : Int) (m : Nat) : Prop where
  s0 : decide ((L.take 2).drop 0 = (L'.take 2).drop 0) = (sp == sp')
  s2 : decide ((L.take 4).drop 2 = (L'.take 4).drop 2) = (dp == dp')
  s4 : decide ((L.take 8).drop 4 = (L'.take 8).drop 4) = (sq == sq')
  s8 : decide ((L.take 12).drop 8 = (L'.take 12).drop 8) = (ak == ak')
  s12 : decide ((L.take 13).drop 12 = (L'.take 13).drop 12) = true
  s13 : decide ((L.take 14).drop 13 = (L'.take 14).drop 13) = (fl == fl')
  s14 : decide ((L.take 16).drop 14 = (L'.take 16).drop 14) = (wn == wn')
  s18 : decide ((L.take 20).drop 18 = (L'.take 20).drop 18) = (ug == ug')
  s20 : decide ((L.take m).drop 20 = (L'.take m).drop 20) = true
theorem parts_of (src dst : Int) (s t : Seg) (hs : SegNum s) (ht : SegNum t) (ho : t.os = s.os) (hd : t.d = s.d) (m : Nat) (hm : 20 ≤ m) :
    PartsT (segB src dst s) (segB src dst t) s.sp s.dp s.sq s.ak s.fl s.wn s.ug t.sp t.dp t.sq t.ak t.fl t.wn t.ug m := by
  obtain ⟨u, v, e⟩ := segB_cons src dst s
  obtain ⟨u', v', e'⟩ := segB_cons src dst t
  obtain ⟨h1, h2, h3, h4, h5, h6, h7⟩ := hs
  obtain ⟨k1, k2, k3, k4, k5, k6, k7⟩ := ht
  have hob : optB t = optB s := by unfold optB; rw [ho]
  have hof : offS t = offS s := by unfold offS; rw [hob]
  rw [e, e', hob, hof, hd]
  clear e e'
  constructor
  · rw [Bool.eq_iff_iff]; simp; omega
  · rw [Bool.eq_iff_iff]; simp; omega
  · rw [Bool.eq_iff_iff]; simp; omega
  · rw [Bool.eq_iff_iff]; simp; omega
  · simp
  · rw [Bool.eq_iff_iff]; simp
  · rw [Bool.eq_iff_iff]; simp; omega
  · rw [Bool.eq_iff_iff]; simp; omega
  · obtain ⟨k, rfl⟩ : ∃ k, m = 20 + k := ⟨m - 20, by omega⟩
    simp [List.drop_take]
theorem errS_same (s t : Seg) (ho : t.os = s.os) (hd : t.d = s.d) : errS t = errS s ∧ lenB t = lenB s := by
  unfold errS lenB optB
  rw [ho, hd]
  exact ⟨rfl, rfl⟩

theorem length_told (sp dp sq ak fl wn ug : Int) (AO : Option Addr) (nO cO : Nat) (AD : Option Addr) (nD cD : Nat) (x : Int) (w : World) (hf : 0 ≤ fl ∧ fl < 256) (hx : lenS fl nD = x) :
    Calls Try.prog 17 #[.agg #[.int .u16 sp, .int .u16 dp, .int .u32 sq, .int .u32 ak, .int .u8 fl, .int .u16 wn, .int .u16 ug, .slice AO nO cO, .slice AD nD cD]] w fun e w' => e = .returned (.int .u32 x) ∧ Below w.heap.size w w' := by
  subst hx; exact length_any ⟨sp, dp, sq, ak, fl, wn, ug, [], []⟩ AO nO cO AD nD cD w hf

set_option maxHeartbeats 8000000 in
set_option maxRecDepth 100000 in
theorem walk_bad (w : World) (src dst : Int) (sp dp sq ak fl wn ug sp' dp' sq' ak' fl' wn' ug' : Int) (os : List (Int × List Int)) (d : List Int) (AO : Option Addr) (nO cO : Nat) (oss : List OptV) (AD : Option Addr) (nD cD : Nat) (AO' : Option Addr) (nO' cO' : Nat) (AD' : Option Addr) (nD' cD' : Nat) (hnO : nO ≤ 140737488355328) (hnD : nD ≤ 140737488355328) (hs : SegRd w ⟨sp, dp, sq, ak, fl, wn, ug, os, d⟩ AO nO cO oss AD nD cD) (ht2 : SegRd w ⟨sp', dp', sq', ak', fl', wn', ug', os, d⟩ AO nO cO oss AD nD cD) (h0 : ¬ errS ⟨sp, dp, sq, ak, fl, wn, ug, os, d⟩ = 0) :
    Calls Try.prog 6 #[.int .u32 src, .int .u32 dst, .agg #[.int .u16 sp, .int .u16 dp, .int .u32 sq, .int .u32 ak, .int .u8 fl, .int .u16 wn, .int .u16 ug, .slice AO nO cO, .slice AD nD cD], .agg #[.int .u16 sp', .int .u16 dp', .int .u32 sq', .int .u32 ak', .int .u8 fl', .int .u16 wn', .int .u16 ug', .slice AO' nO' cO', .slice AD' nD' cD']] w fun e w' => e = .returned (.bool true) ∧ Below w.heap.size w w' := by
  have hmf : ∀ (fn : Fn) (first cap : Array Value) (w : World), (Instr.makeFunc fn first cap).run Try.prog w = .ok (.func fn first cap) w := fun _ _ _ _ => rfl
  obtain ⟨z, hz⟩ : ∃ z, w.heap.size = z := ⟨_, rfl⟩
  have Hz := Lib.hid hz
  have Hs := Lib.hid hs
  have Ht := Lib.hid ht2
  clear hs ht2
  have hes := errS_same ⟨sp, dp, sq, ak, fl, wn, ug, os, d⟩ ⟨sp', dp', sq', ak', fl', wn', ug', os, d⟩ rfl rfl
  obtain ⟨x, ex⟩ : ∃ x, errS ⟨sp, dp, sq, ak, fl, wn, ug, os, d⟩ = x := ⟨_, rfl⟩
  have Hx := Lib.hid ex
  have Hx' := Lib.hid (hes.1.trans ex)
  have Hx0 := Lib.hid (show x ≠ 0 by omega)
  have hx1 : (x == 0) = false := by simp; omega
  have hx2 : (x != 0) = true := by simp; omega
  clear hes h0 ex
  go_enter Try.func6, Try.ntmps6
  go_wp2_with fail
  obtain ⟨w1, hw1⟩ : ∃ w1, w1 = ((w.alloc (.cells #[.int .u16 sp, .int .u16 dp, .int .u32 sq, .int .u32 ak, .int .u8 fl, .int .u16 wn, .int .u16 ug, .slice AO nO cO, .slice AD nD cD] 27)).alloc (.cells #[.int .u16 sp', .int .u16 dp', .int .u32 sq', .int .u32 ak', .int .u8 fl', .int .u16 wn', .int .u16 ug', .slice AO' nO' cO', .slice AD' nD' cD'] 27)) := ⟨_, rfl⟩
  rw [← hw1]
  have hb1 : Below w.heap.size w w1 := by rw [hw1]; exact ((Below.refl _ _).alloc (Nat.le_refl _) _).alloc (by simp) _
  have hk1 : w1.heap[z]? = some (.cells #[.int .u16 sp, .int .u16 dp, .int .u32 sq, .int .u32 ak, .int .u8 fl, .int .u16 wn, .int .u16 ug, .slice AO nO cO, .slice AD nD cD] 27 (0, 0)) := by rw [hw1, ← Hz.out, Below.heap_alloc _ _ _ (by simp)]; exact heap_alloc_new w _
  have hk2 : w1.heap[z + 1]? = some (.cells #[.int .u16 sp', .int .u16 dp', .int .u32 sq', .int .u32 ak', .int .u8 fl', .int .u16 wn', .int .u16 ug', .slice AO' nO' cO', .slice AD' nD' cD'] 27 (0, 0)) := by rw [hw1, ← Hz.out]; have := heap_alloc_new (w.alloc (.cells #[.int .u16 sp, .int .u16 dp, .int .u32 sq, .int .u32 ak, .int .u8 fl, .int .u16 wn, .int .u16 ug, .slice AO nO cO, .slice AD nD cD] 27)) (.cells #[.int .u16 sp', .int .u16 dp', .int .u32 sq', .int .u32 ak', .int .u8 fl', .int .u16 wn', .int .u16 ug', .slice AO' nO' cO', .slice AD' nD' cD'] 27); simpa using this
  clear hw1
  obtain ⟨c0, c1, c2, c3, c4, c5, c6, c7, c8⟩ := seg_cells hk1
  obtain ⟨d0, d1, d2, d3, d4, d5, d6, d7, d8⟩ := seg_cells hk2
  have df := blk_free hk2
  have h7 := setCell_block (i := 7) hk2 (.slice AO nO cO)
  have h8 := setCell_block (i := 8) h7 (.slice AD nD cD)
  simp at h8
  have hset : But (fun k => k = z + 1) w1 ((w1.setCell ⟨z + 1, 7, none⟩ (.slice AO nO cO)).setCell ⟨z + 1, 8, none⟩ (.slice AD nD cD)) := ((But.refl (fun k => k = z + 1) w1).setCell (p := ⟨z + 1, 7, none⟩) rfl _).setCell (p := ⟨z + 1, 8, none⟩) rfl _
  have HK2 := Lib.hid h8
  have HK1 := Lib.hid (hset.blk hk1 (by omega))
  have HB1 := Lib.hid (hb1.trans (hset.below (B := w.heap.size) (fun k hk => by have := Hz.out; omega) hb1.size))
  clear h7 h8 hset hk1 hk2 hb1
  go_region
  go_wp2_with fail
  clear c0 c1 c2 c3 c4 c5 c6 c7 c8 d0 d1 d2 d3 d4 d5 d6 d7 d8 df
  obtain ⟨w2, ew2⟩ : ∃ w2, ((w1.setCell ⟨z + 1, 7, none⟩ (.slice AO nO cO)).setCell ⟨z + 1, 8, none⟩ (.slice AD nD cD)).drew = w2 := ⟨_, rfl⟩
  rw [ew2]
  have HK1 := Lib.hid (show w2.heap[z]? = some (.cells #[.int .u16 sp, .int .u16 dp, .int .u32 sq, .int .u32 ak, .int .u8 fl, .int .u16 wn, .int .u16 ug, .slice AO nO cO, .slice AD nD cD] 27 (0, 0)) by rw [← ew2]; exact HK1.out)
  have HK2 := Lib.hid (show w2.heap[z + 1]? = some (.cells #[.int .u16 sp', .int .u16 dp', .int .u32 sq', .int .u32 ak', .int .u8 fl', .int .u16 wn', .int .u16 ug', .slice AO nO cO, .slice AD nD cD] 27 (0, 0)) by rw [← ew2]; exact HK2.out)
  have HB1 := Lib.hid (show Below w.heap.size w w2 by rw [← ew2]; exact Below.drew HB1.out)
  clear ew2
  refine (put6_err src dst ⟨sp, dp, sq, ak, fl, wn, ug, os, d⟩ AO nO cO oss AD nD cD _ x hnO hnD (Hs.out.below HB1.out) Hx.out Hx0.out).mono ?_
  rintro e w3 ⟨rfl, hb3⟩
  have hb3' := below_trans hb3 ((Below.refl w3.heap.size w3).alloc (Nat.le_refl _) (.cells #[.slice none 0 0] 25))
  have HK1 := Lib.hid (blk_on HK1.out hb3')
  have HK2 := Lib.hid (blk_on HK2.out hb3')
  have HB3 := Lib.hid (below_trans HB1.out hb3')
  clear hb3 hb3'
  obtain ⟨c0, c1, c2, c3, c4, c5, c6, c7, c8⟩ := seg_cells HK1.out
  obtain ⟨d0, d1, d2, d3, d4, d5, d6, d7, d8⟩ := seg_cells HK2.out
  go_wp2_with fail
  clear c0 c1 c2 c3 c4 c5 c6 c7 c8 d0 d1 d2 d3 d4 d5 d6 d7 d8
  refine (put6_err src dst ⟨sp', dp', sq', ak', fl', wn', ug', os, d⟩ AO nO cO oss AD nD cD _ x hnO hnD (Ht.out.below HB3.out) Hx'.out Hx0.out).mono ?_
  rintro e w4 ⟨rfl, hb4⟩
  have hb4' := below_trans hb4 ((Below.refl w4.heap.size w4).alloc (Nat.le_refl _) (.cells #[.slice none 0 0] 25))
  have HB4 := Lib.hid (below_trans HB3.out hb4')
  clear hb4 hb4'
  go_wp2_with fail
  refine (wakes_any _).mono ?_
  rintro e w5 ⟨rfl, hb5⟩
  have HB5 := Lib.hid (below_trans HB4.out hb5)
  clear hb5
  go_wp2_with fail
  go_ret
  exact ⟨rfl, HB5.out⟩
set_option maxHeartbeats 8000000 in
set_option maxRecDepth 100000 in
theorem walk_good (w : World) (src dst : Int) (sp dp sq ak fl wn ug sp' dp' sq' ak' fl' wn' ug' : Int) (os : List (Int × List Int)) (d : List Int) (AO : Option Addr) (nO cO : Nat) (oss : List OptV) (AD : Option Addr) (nD cD : Nat) (AO' : Option Addr) (nO' cO' : Nat) (AD' : Option Addr) (nD' cD' : Nat) (hnO : nO ≤ 140737488355328) (hnD : nD ≤ 140737488355328) (hs : SegRd w ⟨sp, dp, sq, ak, fl, wn, ug, os, d⟩ AO nO cO oss AD nD cD) (ht2 : SegRd w ⟨sp', dp', sq', ak', fl', wn', ug', os, d⟩ AO nO cO oss AD nD cD) (h0 : errS ⟨sp, dp, sq, ak, fl, wn, ug, os, d⟩ = 0) :
    Calls Try.prog 6 #[.int .u32 src, .int .u32 dst, .agg #[.int .u16 sp, .int .u16 dp, .int .u32 sq, .int .u32 ak, .int .u8 fl, .int .u16 wn, .int .u16 ug, .slice AO nO cO, .slice AD nD cD], .agg #[.int .u16 sp', .int .u16 dp', .int .u32 sq', .int .u32 ak', .int .u8 fl', .int .u16 wn', .int .u16 ug', .slice AO' nO' cO', .slice AD' nD' cD']] w fun e w' => e = .returned (.bool true) ∧ Below w.heap.size w w' := by
  have hmf : ∀ (fn : Fn) (first cap : Array Value) (w : World), (Instr.makeFunc fn first cap).run Try.prog w = .ok (.func fn first cap) w := fun _ _ _ _ => rfl
  obtain ⟨z, hz⟩ : ∃ z, w.heap.size = z := ⟨_, rfl⟩
  have Hz := Lib.hid hz
  have Hs := Lib.hid hs
  have Ht := Lib.hid ht2
  clear hs ht2
  have hes := errS_same ⟨sp, dp, sq, ak, fl, wn, ug, os, d⟩ ⟨sp', dp', sq', ak', fl', wn', ug', os, d⟩ rfl rfl
  have hg : Good ⟨sp, dp, sq, ak, fl, wn, ug, os, d⟩ := ⟨Hs.out.num, Hs.out.os.byte, Hs.out.d.byte, h0⟩
  have hg' : Good ⟨sp', dp', sq', ak', fl', wn', ug', os, d⟩ := ⟨Ht.out.num, Ht.out.os.byte, Ht.out.d.byte, hes.1.trans h0⟩
  obtain ⟨L, eL⟩ : ∃ L, segB src dst ⟨sp, dp, sq, ak, fl, wn, ug, os, d⟩ = L := ⟨_, rfl⟩
  obtain ⟨L', eL'⟩ : ∃ L', segB src dst ⟨sp', dp', sq', ak', fl', wn', ug', os, d⟩ = L' := ⟨_, rfl⟩
  obtain ⟨m, em⟩ : ∃ m, lenB ⟨sp, dp, sq, ak, fl, wn, ug, os, d⟩ = m := ⟨_, rfl⟩
  have em' := hes.2.trans em
  have hdl : d.length = nD := Hs.out.d.len
  have hm20 : 20 ≤ m := by rw [← em]; unfold lenB; omega
  have hm1480 : m ≤ 1480 := by rw [← em]; exact hg.may.2.2
  have hnD2 : nD ≤ 1480 := by rw [← hdl]; have h1 := em; unfold lenB at h1; simp only at h1; omega
  have HP := Lib.hid (parts_of src dst _ _ hg.num hg'.num rfl rfl m hm20)
  rw [eL, eL'] at HP
  have HbL := Lib.hid (show ∀ x ∈ L, 0 ≤ x ∧ x < 256 by rw [← eL]; exact hg.bytes src dst)
  have HbL' := Lib.hid (show ∀ x ∈ L', 0 ≤ x ∧ x < 256 by rw [← eL']; exact hg'.bytes src dst)
  have H0 := Lib.hid h0
  have H0' := Lib.hid (hes.1.trans h0)
  have EL := Lib.hid eL
  have EL' := Lib.hid eL'
  have Em := Lib.hid em
  have Em' := Lib.hid em'
  have hmi : ¬ (m : Int) < 20 := by omega
  have hmj : (20 : Int) ≤ (m : Int) := by omega
  have hmd : decide ((m : Int) < 20) = false := by simp; omega
  have hfl := hg.num.fl
  simp only at hfl HP
  clear hes h0 hg hg' eL eL' em em' hdl
  go_enter Try.func6, Try.ntmps6
  go_wp2_with fail
  obtain ⟨w1, hw1⟩ : ∃ w1, w1 = ((w.alloc (.cells #[.int .u16 sp, .int .u16 dp, .int .u32 sq, .int .u32 ak, .int .u8 fl, .int .u16 wn, .int .u16 ug, .slice AO nO cO, .slice AD nD cD] 27)).alloc (.cells #[.int .u16 sp', .int .u16 dp', .int .u32 sq', .int .u32 ak', .int .u8 fl', .int .u16 wn', .int .u16 ug', .slice AO' nO' cO', .slice AD' nD' cD'] 27)) := ⟨_, rfl⟩
  rw [← hw1]
  have hb1 : Below w.heap.size w w1 := by rw [hw1]; exact ((Below.refl _ _).alloc (Nat.le_refl _) _).alloc (by simp) _
  have hk1 : w1.heap[z]? = some (.cells #[.int .u16 sp, .int .u16 dp, .int .u32 sq, .int .u32 ak, .int .u8 fl, .int .u16 wn, .int .u16 ug, .slice AO nO cO, .slice AD nD cD] 27 (0, 0)) := by rw [hw1, ← Hz.out, Below.heap_alloc _ _ _ (by simp)]; exact heap_alloc_new w _
  have hk2 : w1.heap[z + 1]? = some (.cells #[.int .u16 sp', .int .u16 dp', .int .u32 sq', .int .u32 ak', .int .u8 fl', .int .u16 wn', .int .u16 ug', .slice AO' nO' cO', .slice AD' nD' cD'] 27 (0, 0)) := by rw [hw1, ← Hz.out]; have := heap_alloc_new (w.alloc (.cells #[.int .u16 sp, .int .u16 dp, .int .u32 sq, .int .u32 ak, .int .u8 fl, .int .u16 wn, .int .u16 ug, .slice AO nO cO, .slice AD nD cD] 27)) (.cells #[.int .u16 sp', .int .u16 dp', .int .u32 sq', .int .u32 ak', .int .u8 fl', .int .u16 wn', .int .u16 ug', .slice AO' nO' cO', .slice AD' nD' cD'] 27); simpa using this
  clear hw1
  obtain ⟨c0, c1, c2, c3, c4, c5, c6, c7, c8⟩ := seg_cells hk1
  obtain ⟨d0, d1, d2, d3, d4, d5, d6, d7, d8⟩ := seg_cells hk2
  have df := blk_free hk2
  have h7 := setCell_block (i := 7) hk2 (.slice AO nO cO)
  have h8 := setCell_block (i := 8) h7 (.slice AD nD cD)
  simp at h8
  have hset : But (fun k => k = z + 1) w1 ((w1.setCell ⟨z + 1, 7, none⟩ (.slice AO nO cO)).setCell ⟨z + 1, 8, none⟩ (.slice AD nD cD)) := ((But.refl (fun k => k = z + 1) w1).setCell (p := ⟨z + 1, 7, none⟩) rfl _).setCell (p := ⟨z + 1, 8, none⟩) rfl _
  have HK2 := Lib.hid h8
  have HK1 := Lib.hid (hset.blk hk1 (by omega))
  have HB1 := Lib.hid (hb1.trans (hset.below (B := w.heap.size) (fun k hk => by have := Hz.out; omega) hb1.size))
  clear h7 h8 hset hk1 hk2 hb1
  go_region
  go_wp2_with fail
  clear c0 c1 c2 c3 c4 c5 c6 c7 c8 d0 d1 d2 d3 d4 d5 d6 d7 d8 df
  obtain ⟨w2, ew2⟩ : ∃ w2, ((w1.setCell ⟨z + 1, 7, none⟩ (.slice AO nO cO)).setCell ⟨z + 1, 8, none⟩ (.slice AD nD cD)).drew = w2 := ⟨_, rfl⟩
  rw [ew2]
  have HK1 := Lib.hid (show w2.heap[z]? = some (.cells #[.int .u16 sp, .int .u16 dp, .int .u32 sq, .int .u32 ak, .int .u8 fl, .int .u16 wn, .int .u16 ug, .slice AO nO cO, .slice AD nD cD] 27 (0, 0)) by rw [← ew2]; exact HK1.out)
  have HK2 := Lib.hid (show w2.heap[z + 1]? = some (.cells #[.int .u16 sp', .int .u16 dp', .int .u32 sq', .int .u32 ak', .int .u8 fl', .int .u16 wn', .int .u16 ug', .slice AO nO cO, .slice AD nD cD] 27 (0, 0)) by rw [← ew2]; exact HK2.out)
  have HB1 := Lib.hid (show Below w.heap.size w w2 by rw [← ew2]; exact Below.drew HB1.out)
  clear ew2
  refine (put6_told src dst ⟨sp, dp, sq, ak, fl, wn, ug, os, d⟩ AO nO cO oss AD nD cD _ L m hnO hnD (Hs.out.below HB1.out) H0.out Em.out EL.out).mono ?_
  rintro e w3 ⟨A3, c3, rfl, hk3, hm3, ho3, hb3⟩
  obtain ⟨g, rfl, -, -⟩ := ho3.addr (by omega)
  have hba3 : Below w3.heap.size w3 (w3.alloc (.cells #[.slice (some ⟨g, 0, none⟩) m c3] 25)) := (Below.refl _ _).alloc (Nat.le_refl _) _
  have hb3' := below_trans hb3 hba3
  have HK1 := Lib.hid (blk_on HK1.out hb3')
  have HK2 := Lib.hid (blk_on HK2.out hb3')
  have HB3 := Lib.hid (below_trans HB1.out hb3')
  have HX3 := Lib.hid (heap_alloc_new w3 (.cells #[.slice (some ⟨g, 0, none⟩) m c3] 25))
  have HR3 := Lib.hid ((ho3.rd HbL.out).below hba3)
  clear hb3 hb3' hba3 ho3
  obtain ⟨c0, c1, c2, c3, c4, c5, c6, c7, c8⟩ := seg_cells HK1.out
  obtain ⟨d0, d1, d2, d3, d4, d5, d6, d7, d8⟩ := seg_cells HK2.out
  go_wp2_with fail
  clear c0 c1 c2 c3 c4 c5 c6 c7 c8 d0 d1 d2 d3 d4 d5 d6 d7 d8
  refine (put6_told src dst ⟨sp', dp', sq', ak', fl', wn', ug', os, d⟩ AO nO cO oss AD nD cD _ L' m hnO hnD (Ht.out.below HB3.out) H0'.out Em'.out EL'.out).mono ?_
  rintro e w4 ⟨A4, c4, rfl, hk4, hm4, ho4, hb4⟩
  obtain ⟨g', rfl, -, -⟩ := ho4.addr (by omega)
  have hba4 : Below w4.heap.size w4 (w4.alloc (.cells #[.slice (some ⟨g', 0, none⟩) m c4] 25)) := (Below.refl _ _).alloc (Nat.le_refl _) _
  have hb4' := below_trans hb4 hba4
  have hhd : Held sp dp sq ak fl wn ug sp' dp' sq' ak' fl' wn' ug' AO nO cO AD nD cD z (z + 1) w3.heap.size w4.heap.size g g' m c3 c4 L L' w (w4.alloc (.cells #[.slice (some ⟨g', 0, none⟩) m c4] 25)) :=
    ⟨blk_on HK1.out hb4', blk_on HK2.out hb4', blk_on HX3.out hb4', heap_alloc_new w4 _, HR3.out.below hb4', (ho4.rd HbL'.out).below hba4, below_trans HB3.out hb4'⟩
  have p0 := hhd.bp.cell
  have q0 := hhd.bq.cell
  have HK1 := Lib.hid hhd.hh
  have HH := Lib.hid hhd
  have H20 := Lib.hid (fun w => same_rest w3.heap.size w4.heap.size g g' c3 c4 m L L' w hm20 hk3 hk4 hm3 hm4 HP.out.s20)
  have cf := blk_cell HK1.out 4
  simp at cf
  have ha1 := and8_bit 1 (by omega) fl hfl
  have ha2 := and8_bit 0 (by omega) fl hfl
  simp at ha1 ha2
  clear hb4 hb4' hba4 ho4 hhd HK1 HK2 HB1 HB3 HX3 HR3 Hs Ht
  obtain ⟨r1, er1⟩ : ∃ r, fl / 2 % 2 = r := ⟨_, rfl⟩
  obtain ⟨r2, er2⟩ : ∃ r, fl % 2 = r := ⟨_, rfl⟩
  have hr1 : r1 = 0 ∨ r1 = 1 := by omega
  have hr2 : r2 = 0 ∨ r2 = 1 := by omega
  rw [er1] at ha1
  rw [er2] at ha2
  have Hlen := Lib.hid (fun w => length_told sp dp sq ak fl wn ug AO nO cO AD nD cD ((nD : Int) + (r1 + r2)) w hfl (by unfold lenS; rw [er1, er2]; omega))
  have hr1b : 0 ≤ r1 ∧ r1 ≤ 1 := by omega
  have hr2b : 0 ≤ r2 ∧ r2 ≤ 1 := by omega
  clear er1 er2
  go_upto_if 55 with (fail)
  go_cut [14] (fun s14 wx => s14 = .int .u32 r1 ∧ w4.alloc (.cells #[.slice (some ⟨g', 0, none⟩) m c4] 25) = wx)
  case first =>
    rcases hr1 with rfl | rfl
    · have h55 : (((0 : Int) * 2) != 0) = false := rfl
      go_wp2_with fail
      go_meet
      exact ⟨rfl, rfl⟩
    · have h55 : (((1 : Int) * 2) != 0) = true := rfl
      go_wp2_with fail
      go_meet
      exact ⟨rfl, rfl⟩
  case rest =>
  obtain ⟨rfl, rfl⟩ := hcut
  clear hr1 ha1
  go_upto_if 61 with (fail)
  go_cut [14] (fun s14 wx => s14 = .int .u32 (r1 + r2) ∧ w4.alloc (.cells #[.slice (some ⟨g', 0, none⟩) m c4] 25) = wx)
  case first =>
    rcases hr2 with rfl | rfl
    · have h55 : ((0 : Int) != 0) = false := rfl
      go_wp2_with fail
      go_meet
      exact ⟨by simp, rfl⟩
    · have h55 : ((1 : Int) != 0) = true := rfl
      obtain ⟨hr1c, hr1d⟩ := hr1b
      go_wp2_with fail
      go_meet
      exact ⟨rfl, rfl⟩
  case rest =>
  obtain ⟨rfl, rfl⟩ := hcut
  clear hr2 ha2
  obtain ⟨hr1c, hr1d⟩ := hr1b
  obtain ⟨hr2c, hr2d⟩ := hr2b
  have hnDi : (nD : Int) ≤ 1480 := by omega
  go_wp2_with fail
  clear p0 q0 hmf cf
  have hwd : IntKind.u32.wrap (nD : Int) = (nD : Int) := wraps_u32 _ (by omega) (by omega)
  have hws : IntKind.u32.wrap ((nD : Int) + (r1 + r2)) = (nD : Int) + (r1 + r2) := wraps_u32 _ (by omega) (by omega)
  dsimp only [List.append]
  refine wp_region_held_drew (S := fun w' => w'.cell? ⟨z, 0, none⟩ = some (.int .u16 sp) ∧ w'.cell? ⟨z, 1, none⟩ = some (.int .u16 dp) ∧ w'.cell? ⟨z, 2, none⟩ = some (.int .u32 sq) ∧ w'.cell? ⟨z, 3, none⟩ = some (.int .u32 ak) ∧ w'.cell? ⟨z, 4, none⟩ = some (.int .u8 fl) ∧ w'.cell? ⟨z, 5, none⟩ = some (.int .u16 wn) ∧ w'.cell? ⟨z, 6, none⟩ = some (.int .u16 ug) ∧ w'.cell? ⟨z, 7, none⟩ = some (.slice AO nO cO) ∧ w'.cell? ⟨z, 8, none⟩ = some (.slice AD nD cD) ∧ w'.cell? ⟨(z + 1), 0, none⟩ = some (.int .u16 sp') ∧ w'.cell? ⟨(z + 1), 1, none⟩ = some (.int .u16 dp') ∧ w'.cell? ⟨(z + 1), 2, none⟩ = some (.int .u32 sq') ∧ w'.cell? ⟨(z + 1), 3, none⟩ = some (.int .u32 ak') ∧ w'.cell? ⟨(z + 1), 4, none⟩ = some (.int .u8 fl') ∧ w'.cell? ⟨(z + 1), 5, none⟩ = some (.int .u16 wn') ∧ w'.cell? ⟨(z + 1), 6, none⟩ = some (.int .u16 ug') ∧ w'.cell? ⟨w3.heap.size, 0, none⟩ = some (.slice (some ⟨g, 0, none⟩) m c3)) (by kernel_rfl) HH.out.cells (fun hHeld => ?_)
  have HH := Lib.hid HH.out.drew
  clear hnO hnD H0 H0' EL EL' Em Em' HbL HbL' hmi hmj hmd hfl Hz
  as_aux_lemma =>
  refine wpAnyH_take (i := 0) (oi := { dst := some 64, op := Go.Op.move (Go.Operand.tmp 13), type := 50, pos := "outright.go:75", after := #[], guard := none }) (v := ?_) rfl (by kernel_rfl) (by kernel_rfl) (by kernel_rfl) (fun _ _ _ h => h) (Or.inl ⟨by rfl, ?_⟩) (by assumption) ?_
  rotate_left 1
  · intro w' hSw; (go_simp <;> (with_reducible rfl))
  (try simp only [Act.put, List.setIfInBounds_toArray, List.set_cons_zero, List.set_cons_succ])
  refine wpAnyH_take (i := 2) (oi := { dst := some 66, op := Go.Op.fieldAddr 27 (Go.Operand.tmp 6) 0, type := 0, pos := "outright.go:75", after := #[], guard := none }) (v := ?_) rfl (by kernel_rfl) (by kernel_rfl) (by kernel_rfl) (fun _ _ _ h => h) (Or.inl ⟨by rfl, ?_⟩) (by assumption) ?_
  rotate_left 1
  · intro w' hSw; (go_simp <;> (with_reducible rfl))
  (try simp only [Act.put, List.setIfInBounds_toArray, List.set_cons_zero, List.set_cons_succ])
  refine wpAnyH_take (i := 3) (oi := { dst := some 67, op := Go.Op.load 23 (Go.Operand.tmp 66), type := 23, pos := "outright.go:75", after := #[{ on := 2, ground := Go.Ground.data }], guard := none }) (v := ?_) rfl (by kernel_rfl) (by kernel_rfl) (by kernel_rfl) (fun _ _ _ h => h) (Or.inl ⟨by rfl, ?_⟩) (by assumption) ?_
  rotate_left 1
  · intro w' hSw; (go_simp <;> (with_reducible rfl))
  (try simp only [Act.put, List.setIfInBounds_toArray, List.set_cons_zero, List.set_cons_succ])
  refine wpAnyH_take (i := 4) (oi := { dst := some 68, op := Go.Op.fieldAddr 27 (Go.Operand.tmp 7) 0, type := 0, pos := "outright.go:75", after := #[], guard := none }) (v := ?_) rfl (by kernel_rfl) (by kernel_rfl) (by kernel_rfl) (fun _ _ _ h => h) (Or.inl ⟨by rfl, ?_⟩) (by assumption) ?_
  rotate_left 1
  · intro w' hSw; (go_simp <;> (with_reducible rfl))
  (try simp only [Act.put, List.setIfInBounds_toArray, List.set_cons_zero, List.set_cons_succ])
  refine wpAnyH_take (i := 5) (oi := { dst := some 69, op := Go.Op.load 23 (Go.Operand.tmp 68), type := 23, pos := "outright.go:75", after := #[{ on := 4, ground := Go.Ground.data }], guard := none }) (v := ?_) rfl (by kernel_rfl) (by kernel_rfl) (by kernel_rfl) (fun _ _ _ h => h) (Or.inl ⟨by rfl, ?_⟩) (by assumption) ?_
  rotate_left 1
  · intro w' hSw; (go_simp <;> (with_reducible rfl))
  (try simp only [Act.put, List.setIfInBounds_toArray, List.set_cons_zero, List.set_cons_succ])
  refine wpAnyH_take (i := 6) (oi := { dst := some 70, op := Go.Op.binOp Go.BinOp.eql 23 (Go.Operand.tmp 67) (Go.Operand.tmp 69) 23, type := 4, pos := "outright.go:75", after := #[{ on := 3, ground := Go.Ground.data }, { on := 5, ground := Go.Ground.data }], guard := none }) (v := ?_) rfl (by kernel_rfl) (by kernel_rfl) (by kernel_rfl) (fun _ _ _ h => h) (Or.inl ⟨by rfl, ?_⟩) (by assumption) ?_
  rotate_left 1
  · intro w' hSw; (go_simp <;> (with_reducible rfl))
  (try simp only [Act.put, List.setIfInBounds_toArray, List.set_cons_zero, List.set_cons_succ])
  refine wpAnyH_ready (rs := [1]) (by kernel_rfl) (by simp) ?_
  refine AllReadyH.cons (o := { dst := some 65, op := Go.Op.call { callee := Go.Callee.value (Go.Operand.tmp 64), args := #[Go.Operand.const (Go.Value.int Go.IntKind.i64 0), Go.Operand.const (Go.Value.int Go.IntKind.i64 2)], argTypes := #[3, 3] }, type := 4, pos := "outright.go:75", after := #[{ on := 0, ground := Go.Ground.data }], guard := none }) rfl (fun K hK => ?_) AllReadyH.nil
  go_simp
  (go_at_call 24; (with_reducible refine (same_at _ _ g g' c3 c4 m 0 2 0 2 L L' (sp == sp') _ rfl rfl (by omega) (by omega) hk3 hk4 HH.out.bp HH.out.bq HH.out.r1 HH.out.r2 HP.out.s0).mono ?_); rintro e w7 ⟨rfl, k7, hk7⟩; have HH := Lib.hid (Held.drewN_ HH.out hk7); clear hk7)
  refine hK.out _ _ ?_ (fun hHeld => ?_)
  · exact HH.out.cells
  clear hK K
  (try simp only [Act.put, List.setIfInBounds_toArray, List.set_cons_zero, List.set_cons_succ])
  refine wpAnyH_take (i := 7) (oi := { dst := some 71, op := Go.Op.binOp Go.BinOp.eql 4 (Go.Operand.tmp 65) (Go.Operand.tmp 70) 4, type := 4, pos := "outright.go:75", after := #[{ on := 1, ground := Go.Ground.data }, { on := 6, ground := Go.Ground.data }], guard := none }) (v := ?_) rfl (by kernel_rfl) (by kernel_rfl) (by kernel_rfl) (fun _ _ _ h => h) (Or.inl ⟨by rfl, ?_⟩) (by assumption) ?_
  rotate_left 1
  · intro w' hSw; (go_simp <;> (with_reducible rfl))
  (try simp only [Act.put, List.setIfInBounds_toArray, List.set_cons_zero, List.set_cons_succ])
  refine wpAnyH_take (i := 8) (oi := { dst := some 72, op := Go.Op.move (Go.Operand.tmp 71), type := 4, pos := "outright.go:75", after := #[{ on := 7, ground := Go.Ground.data }, { on := 1, ground := Go.Ground.chain }], guard := none }) (v := ?_) rfl (by kernel_rfl) (by kernel_rfl) (by kernel_rfl) (fun _ _ _ h => h) (Or.inl ⟨by rfl, ?_⟩) (by assumption) ?_
  rotate_left 1
  · intro w' hSw; (go_simp <;> (with_reducible rfl))
  (try simp only [Act.put, List.setIfInBounds_toArray, List.set_cons_zero, List.set_cons_succ])
  refine wpAnyH_take (i := 9) (oi := { dst := some 73, op := Go.Op.move (Go.Operand.tmp 13), type := 50, pos := "outright.go:75", after := #[{ on := 8, ground := Go.Ground.guard }], guard := some (8, true) }) (v := ?_) rfl (by kernel_rfl) (by kernel_rfl) (by kernel_rfl) (fun _ _ _ h => h) (Or.inl ⟨by rfl, ?_⟩) (by assumption) ?_
  rotate_left 1
  · intro w' hSw; (go_simp <;> (with_reducible rfl))
  (try simp only [Act.put, List.setIfInBounds_toArray, List.set_cons_zero, List.set_cons_succ])
  refine wpAnyH_take (i := 11) (oi := { dst := some 75, op := Go.Op.fieldAddr 27 (Go.Operand.tmp 6) 1, type := 0, pos := "outright.go:75", after := #[{ on := 8, ground := Go.Ground.guard }], guard := some (8, true) }) (v := ?_) rfl (by kernel_rfl) (by kernel_rfl) (by kernel_rfl) (fun _ _ _ h => h) (Or.inl ⟨by rfl, ?_⟩) (by assumption) ?_
  rotate_left 1
  · intro w' hSw; (go_simp <;> (with_reducible rfl))
  (try simp only [Act.put, List.setIfInBounds_toArray, List.set_cons_zero, List.set_cons_succ])
  refine wpAnyH_take (i := 12) (oi := { dst := some 76, op := Go.Op.load 23 (Go.Operand.tmp 75), type := 23, pos := "outright.go:75", after := #[{ on := 11, ground := Go.Ground.data }, { on := 8, ground := Go.Ground.guard }], guard := some (8, true) }) (v := ?_) rfl (by kernel_rfl) (by kernel_rfl) (by kernel_rfl) (fun _ _ _ h => h) (Or.inl ⟨by rfl, ?_⟩) (by assumption) ?_
  rotate_left 1
  · intro w' hSw; (go_simp <;> (with_reducible rfl))
  (try simp only [Act.put, List.setIfInBounds_toArray, List.set_cons_zero, List.set_cons_succ])
  refine wpAnyH_take (i := 13) (oi := { dst := some 77, op := Go.Op.fieldAddr 27 (Go.Operand.tmp 7) 1, type := 0, pos := "outright.go:75", after := #[{ on := 8, ground := Go.Ground.guard }], guard := some (8, true) }) (v := ?_) rfl (by kernel_rfl) (by kernel_rfl) (by kernel_rfl) (fun _ _ _ h => h) (Or.inl ⟨by rfl, ?_⟩) (by assumption) ?_
  rotate_left 1
  · intro w' hSw; (go_simp <;> (with_reducible rfl))
  (try simp only [Act.put, List.setIfInBounds_toArray, List.set_cons_zero, List.set_cons_succ])
  refine wpAnyH_take (i := 14) (oi := { dst := some 78, op := Go.Op.load 23 (Go.Operand.tmp 77), type := 23, pos := "outright.go:75", after := #[{ on := 13, ground := Go.Ground.data }, { on := 8, ground := Go.Ground.guard }], guard := some (8, true) }) (v := ?_) rfl (by kernel_rfl) (by kernel_rfl) (by kernel_rfl) (fun _ _ _ h => h) (Or.inl ⟨by rfl, ?_⟩) (by assumption) ?_
  rotate_left 1
  · intro w' hSw; (go_simp <;> (with_reducible rfl))
  (try simp only [Act.put, List.setIfInBounds_toArray, List.set_cons_zero, List.set_cons_succ])
  refine wpAnyH_take (i := 15) (oi := { dst := some 79, op := Go.Op.binOp Go.BinOp.eql 23 (Go.Operand.tmp 76) (Go.Operand.tmp 78) 23, type := 4, pos := "outright.go:75", after := #[{ on := 12, ground := Go.Ground.data }, { on := 14, ground := Go.Ground.data }, { on := 8, ground := Go.Ground.guard }], guard := some (8, true) }) (v := ?_) rfl (by kernel_rfl) (by kernel_rfl) (by kernel_rfl) (fun _ _ _ h => h) (Or.inl ⟨by rfl, ?_⟩) (by assumption) ?_
  rotate_left 1
  · intro w' hSw; (go_simp <;> (with_reducible rfl))
  (try simp only [Act.put, List.setIfInBounds_toArray, List.set_cons_zero, List.set_cons_succ])
  refine wpAnyH_ready (rs := [10]) (by kernel_rfl) (by simp) ?_
  refine AllReadyH.cons (o := { dst := some 74, op := Go.Op.call { callee := Go.Callee.value (Go.Operand.tmp 73), args := #[Go.Operand.const (Go.Value.int Go.IntKind.i64 2), Go.Operand.const (Go.Value.int Go.IntKind.i64 4)], argTypes := #[3, 3] }, type := 4, pos := "outright.go:75", after := #[{ on := 9, ground := Go.Ground.data }, { on := 8, ground := Go.Ground.chain }, { on := 8, ground := Go.Ground.guard }], guard := some (8, true) }) rfl (fun K hK => ?_) AllReadyH.nil
  go_simp
  (go_at_call 24; (with_reducible refine (same_at _ _ g g' c3 c4 m 2 4 2 4 L L' (dp == dp') _ rfl rfl (by omega) (by omega) hk3 hk4 HH.out.bp HH.out.bq HH.out.r1 HH.out.r2 HP.out.s2).mono ?_); rintro e w7 ⟨rfl, k7, hk7⟩; have HH := Lib.hid (Held.drewN_ HH.out hk7); clear hk7)
  refine hK.out _ _ ?_ (fun hHeld => ?_)
  · exact HH.out.cells
  clear hK K
  (try simp only [Act.put, List.setIfInBounds_toArray, List.set_cons_zero, List.set_cons_succ])
  refine wpAnyH_take (i := 16) (oi := { dst := some 80, op := Go.Op.binOp Go.BinOp.eql 4 (Go.Operand.tmp 74) (Go.Operand.tmp 79) 4, type := 4, pos := "outright.go:75", after := #[{ on := 10, ground := Go.Ground.data }, { on := 15, ground := Go.Ground.data }, { on := 8, ground := Go.Ground.guard }], guard := some (8, true) }) (v := ?_) rfl (by kernel_rfl) (by kernel_rfl) (by kernel_rfl) (fun _ _ _ h => h) (Or.inl ⟨by rfl, ?_⟩) (by assumption) ?_
  rotate_left 1
  · intro w' hSw; (go_simp <;> (with_reducible rfl))
  (try simp only [Act.put, List.setIfInBounds_toArray, List.set_cons_zero, List.set_cons_succ])
  refine wpAnyH_take (i := 17) (oi := { dst := some 81, op := Go.Op.pick (Go.Operand.tmp 72) (Go.Operand.tmp 80) (Go.Operand.const (Go.Value.bool false)), type := 4, pos := "outright.go:75", after := #[{ on := 8, ground := Go.Ground.data }, { on := 16, ground := Go.Ground.data }], guard := none }) (v := ?_) rfl (by kernel_rfl) (by kernel_rfl) (by kernel_rfl) (fun _ _ _ h => h) (Or.inl ⟨by rfl, ?_⟩) (by assumption) ?_
  rotate_left 1
  · intro w' hSw; (go_simp <;> (with_reducible rfl))
  (try simp only [Act.put, List.setIfInBounds_toArray, List.set_cons_zero, List.set_cons_succ])
  refine wpAnyH_take (i := 18) (oi := { dst := some 82, op := Go.Op.move (Go.Operand.tmp 81), type := 4, pos := "outright.go:75", after := #[{ on := 17, ground := Go.Ground.data }, { on := 10, ground := Go.Ground.chain }], guard := none }) (v := ?_) rfl (by kernel_rfl) (by kernel_rfl) (by kernel_rfl) (fun _ _ _ h => h) (Or.inl ⟨by rfl, ?_⟩) (by assumption) ?_
  rotate_left 1
  · intro w' hSw; (go_simp <;> (with_reducible rfl))
  (try simp only [Act.put, List.setIfInBounds_toArray, List.set_cons_zero, List.set_cons_succ])
  refine wpAnyH_take (i := 19) (oi := { dst := some 83, op := Go.Op.move (Go.Operand.tmp 13), type := 50, pos := "outright.go:75", after := #[{ on := 18, ground := Go.Ground.guard }], guard := some (18, true) }) (v := ?_) rfl (by kernel_rfl) (by kernel_rfl) (by kernel_rfl) (fun _ _ _ h => h) (Or.inl ⟨by rfl, ?_⟩) (by assumption) ?_
  rotate_left 1
  · intro w' hSw; (go_simp <;> (with_reducible rfl))
  (try simp only [Act.put, List.setIfInBounds_toArray, List.set_cons_zero, List.set_cons_succ])
  refine wpAnyH_take (i := 21) (oi := { dst := some 85, op := Go.Op.fieldAddr 27 (Go.Operand.tmp 6) 2, type := 0, pos := "outright.go:75", after := #[{ on := 18, ground := Go.Ground.guard }], guard := some (18, true) }) (v := ?_) rfl (by kernel_rfl) (by kernel_rfl) (by kernel_rfl) (fun _ _ _ h => h) (Or.inl ⟨by rfl, ?_⟩) (by assumption) ?_
  rotate_left 1
  · intro w' hSw; (go_simp <;> (with_reducible rfl))
  (try simp only [Act.put, List.setIfInBounds_toArray, List.set_cons_zero, List.set_cons_succ])
  refine wpAnyH_take (i := 22) (oi := { dst := some 86, op := Go.Op.load 22 (Go.Operand.tmp 85), type := 22, pos := "outright.go:75", after := #[{ on := 21, ground := Go.Ground.data }, { on := 18, ground := Go.Ground.guard }], guard := some (18, true) }) (v := ?_) rfl (by kernel_rfl) (by kernel_rfl) (by kernel_rfl) (fun _ _ _ h => h) (Or.inl ⟨by rfl, ?_⟩) (by assumption) ?_
  rotate_left 1
  · intro w' hSw; (go_simp <;> (with_reducible rfl))
  (try simp only [Act.put, List.setIfInBounds_toArray, List.set_cons_zero, List.set_cons_succ])
  refine wpAnyH_take (i := 23) (oi := { dst := some 87, op := Go.Op.fieldAddr 27 (Go.Operand.tmp 7) 2, type := 0, pos := "outright.go:75", after := #[{ on := 18, ground := Go.Ground.guard }], guard := some (18, true) }) (v := ?_) rfl (by kernel_rfl) (by kernel_rfl) (by kernel_rfl) (fun _ _ _ h => h) (Or.inl ⟨by rfl, ?_⟩) (by assumption) ?_
  rotate_left 1
  · intro w' hSw; (go_simp <;> (with_reducible rfl))
  (try simp only [Act.put, List.setIfInBounds_toArray, List.set_cons_zero, List.set_cons_succ])
  refine wpAnyH_take (i := 24) (oi := { dst := some 88, op := Go.Op.load 22 (Go.Operand.tmp 87), type := 22, pos := "outright.go:75", after := #[{ on := 23, ground := Go.Ground.data }, { on := 18, ground := Go.Ground.guard }], guard := some (18, true) }) (v := ?_) rfl (by kernel_rfl) (by kernel_rfl) (by kernel_rfl) (fun _ _ _ h => h) (Or.inl ⟨by rfl, ?_⟩) (by assumption) ?_
  rotate_left 1
  · intro w' hSw; (go_simp <;> (with_reducible rfl))
  (try simp only [Act.put, List.setIfInBounds_toArray, List.set_cons_zero, List.set_cons_succ])
  refine wpAnyH_take (i := 25) (oi := { dst := some 89, op := Go.Op.binOp Go.BinOp.eql 22 (Go.Operand.tmp 86) (Go.Operand.tmp 88) 22, type := 4, pos := "outright.go:75", after := #[{ on := 22, ground := Go.Ground.data }, { on := 24, ground := Go.Ground.data }, { on := 18, ground := Go.Ground.guard }], guard := some (18, true) }) (v := ?_) rfl (by kernel_rfl) (by kernel_rfl) (by kernel_rfl) (fun _ _ _ h => h) (Or.inl ⟨by rfl, ?_⟩) (by assumption) ?_
  rotate_left 1
  · intro w' hSw; (go_simp <;> (with_reducible rfl))
  (try simp only [Act.put, List.setIfInBounds_toArray, List.set_cons_zero, List.set_cons_succ])
  refine wpAnyH_ready (rs := [20]) (by kernel_rfl) (by simp) ?_
  refine AllReadyH.cons (o := { dst := some 84, op := Go.Op.call { callee := Go.Callee.value (Go.Operand.tmp 83), args := #[Go.Operand.const (Go.Value.int Go.IntKind.i64 4), Go.Operand.const (Go.Value.int Go.IntKind.i64 8)], argTypes := #[3, 3] }, type := 4, pos := "outright.go:75", after := #[{ on := 19, ground := Go.Ground.data }, { on := 18, ground := Go.Ground.chain }, { on := 18, ground := Go.Ground.guard }], guard := some (18, true) }) rfl (fun K hK => ?_) AllReadyH.nil
  go_simp
  (go_at_call 24; (with_reducible refine (same_at _ _ g g' c3 c4 m 4 8 4 8 L L' (sq == sq') _ rfl rfl (by omega) (by omega) hk3 hk4 HH.out.bp HH.out.bq HH.out.r1 HH.out.r2 HP.out.s4).mono ?_); rintro e w7 ⟨rfl, k7, hk7⟩; have HH := Lib.hid (Held.drewN_ HH.out hk7); clear hk7)
  refine hK.out _ _ ?_ (fun hHeld => ?_)
  · exact HH.out.cells
  clear hK K
  (try simp only [Act.put, List.setIfInBounds_toArray, List.set_cons_zero, List.set_cons_succ])
  as_aux_lemma =>
  refine wpAnyH_take (i := 26) (oi := { dst := some 90, op := Go.Op.binOp Go.BinOp.eql 4 (Go.Operand.tmp 84) (Go.Operand.tmp 89) 4, type := 4, pos := "outright.go:75", after := #[{ on := 20, ground := Go.Ground.data }, { on := 25, ground := Go.Ground.data }, { on := 18, ground := Go.Ground.guard }], guard := some (18, true) }) (v := ?_) rfl (by kernel_rfl) (by kernel_rfl) (by kernel_rfl) (fun _ _ _ h => h) (Or.inl ⟨by rfl, ?_⟩) (by assumption) ?_
  rotate_left 1
  · intro w' hSw; (go_simp <;> (with_reducible rfl))
  (try simp only [Act.put, List.setIfInBounds_toArray, List.set_cons_zero, List.set_cons_succ])
  refine wpAnyH_take (i := 27) (oi := { dst := some 91, op := Go.Op.pick (Go.Operand.tmp 82) (Go.Operand.tmp 90) (Go.Operand.const (Go.Value.bool false)), type := 4, pos := "outright.go:75", after := #[{ on := 18, ground := Go.Ground.data }, { on := 26, ground := Go.Ground.data }], guard := none }) (v := ?_) rfl (by kernel_rfl) (by kernel_rfl) (by kernel_rfl) (fun _ _ _ h => h) (Or.inl ⟨by rfl, ?_⟩) (by assumption) ?_
  rotate_left 1
  · intro w' hSw; (go_simp <;> (with_reducible rfl))
  (try simp only [Act.put, List.setIfInBounds_toArray, List.set_cons_zero, List.set_cons_succ])
  refine wpAnyH_take (i := 28) (oi := { dst := some 92, op := Go.Op.move (Go.Operand.tmp 91), type := 4, pos := "outright.go:75", after := #[{ on := 27, ground := Go.Ground.data }, { on := 20, ground := Go.Ground.chain }], guard := none }) (v := ?_) rfl (by kernel_rfl) (by kernel_rfl) (by kernel_rfl) (fun _ _ _ h => h) (Or.inl ⟨by rfl, ?_⟩) (by assumption) ?_
  rotate_left 1
  · intro w' hSw; (go_simp <;> (with_reducible rfl))
  (try simp only [Act.put, List.setIfInBounds_toArray, List.set_cons_zero, List.set_cons_succ])
  refine wpAnyH_take (i := 29) (oi := { dst := some 93, op := Go.Op.move (Go.Operand.tmp 13), type := 50, pos := "outright.go:75", after := #[{ on := 28, ground := Go.Ground.guard }], guard := some (28, true) }) (v := ?_) rfl (by kernel_rfl) (by kernel_rfl) (by kernel_rfl) (fun _ _ _ h => h) (Or.inl ⟨by rfl, ?_⟩) (by assumption) ?_
  rotate_left 1
  · intro w' hSw; (go_simp <;> (with_reducible rfl))
  (try simp only [Act.put, List.setIfInBounds_toArray, List.set_cons_zero, List.set_cons_succ])
  refine wpAnyH_take (i := 31) (oi := { dst := some 95, op := Go.Op.fieldAddr 27 (Go.Operand.tmp 6) 3, type := 0, pos := "outright.go:75", after := #[{ on := 28, ground := Go.Ground.guard }], guard := some (28, true) }) (v := ?_) rfl (by kernel_rfl) (by kernel_rfl) (by kernel_rfl) (fun _ _ _ h => h) (Or.inl ⟨by rfl, ?_⟩) (by assumption) ?_
  rotate_left 1
  · intro w' hSw; (go_simp <;> (with_reducible rfl))
  (try simp only [Act.put, List.setIfInBounds_toArray, List.set_cons_zero, List.set_cons_succ])
  refine wpAnyH_take (i := 32) (oi := { dst := some 96, op := Go.Op.load 22 (Go.Operand.tmp 95), type := 22, pos := "outright.go:75", after := #[{ on := 31, ground := Go.Ground.data }, { on := 28, ground := Go.Ground.guard }], guard := some (28, true) }) (v := ?_) rfl (by kernel_rfl) (by kernel_rfl) (by kernel_rfl) (fun _ _ _ h => h) (Or.inl ⟨by rfl, ?_⟩) (by assumption) ?_
  rotate_left 1
  · intro w' hSw; (go_simp <;> (with_reducible rfl))
  (try simp only [Act.put, List.setIfInBounds_toArray, List.set_cons_zero, List.set_cons_succ])
  refine wpAnyH_take (i := 33) (oi := { dst := some 97, op := Go.Op.fieldAddr 27 (Go.Operand.tmp 7) 3, type := 0, pos := "outright.go:75", after := #[{ on := 28, ground := Go.Ground.guard }], guard := some (28, true) }) (v := ?_) rfl (by kernel_rfl) (by kernel_rfl) (by kernel_rfl) (fun _ _ _ h => h) (Or.inl ⟨by rfl, ?_⟩) (by assumption) ?_
  rotate_left 1
  · intro w' hSw; (go_simp <;> (with_reducible rfl))
  (try simp only [Act.put, List.setIfInBounds_toArray, List.set_cons_zero, List.set_cons_succ])
  refine wpAnyH_take (i := 34) (oi := { dst := some 98, op := Go.Op.load 22 (Go.Operand.tmp 97), type := 22, pos := "outright.go:75", after := #[{ on := 33, ground := Go.Ground.data }, { on := 28, ground := Go.Ground.guard }], guard := some (28, true) }) (v := ?_) rfl (by kernel_rfl) (by kernel_rfl) (by kernel_rfl) (fun _ _ _ h => h) (Or.inl ⟨by rfl, ?_⟩) (by assumption) ?_
  rotate_left 1
  · intro w' hSw; (go_simp <;> (with_reducible rfl))
  (try simp only [Act.put, List.setIfInBounds_toArray, List.set_cons_zero, List.set_cons_succ])
  refine wpAnyH_take (i := 35) (oi := { dst := some 99, op := Go.Op.binOp Go.BinOp.eql 22 (Go.Operand.tmp 96) (Go.Operand.tmp 98) 22, type := 4, pos := "outright.go:75", after := #[{ on := 32, ground := Go.Ground.data }, { on := 34, ground := Go.Ground.data }, { on := 28, ground := Go.Ground.guard }], guard := some (28, true) }) (v := ?_) rfl (by kernel_rfl) (by kernel_rfl) (by kernel_rfl) (fun _ _ _ h => h) (Or.inl ⟨by rfl, ?_⟩) (by assumption) ?_
  rotate_left 1
  · intro w' hSw; (go_simp <;> (with_reducible rfl))
  (try simp only [Act.put, List.setIfInBounds_toArray, List.set_cons_zero, List.set_cons_succ])
  refine wpAnyH_ready (rs := [30]) (by kernel_rfl) (by simp) ?_
  refine AllReadyH.cons (o := { dst := some 94, op := Go.Op.call { callee := Go.Callee.value (Go.Operand.tmp 93), args := #[Go.Operand.const (Go.Value.int Go.IntKind.i64 8), Go.Operand.const (Go.Value.int Go.IntKind.i64 12)], argTypes := #[3, 3] }, type := 4, pos := "outright.go:75", after := #[{ on := 29, ground := Go.Ground.data }, { on := 28, ground := Go.Ground.chain }, { on := 28, ground := Go.Ground.guard }], guard := some (28, true) }) rfl (fun K hK => ?_) AllReadyH.nil
  go_simp
  (go_at_call 24; (with_reducible refine (same_at _ _ g g' c3 c4 m 8 12 8 12 L L' (ak == ak') _ rfl rfl (by omega) (by omega) hk3 hk4 HH.out.bp HH.out.bq HH.out.r1 HH.out.r2 HP.out.s8).mono ?_); rintro e w7 ⟨rfl, k7, hk7⟩; have HH := Lib.hid (Held.drewN_ HH.out hk7); clear hk7)
  refine hK.out _ _ ?_ (fun hHeld => ?_)
  · exact HH.out.cells
  clear hK K
  (try simp only [Act.put, List.setIfInBounds_toArray, List.set_cons_zero, List.set_cons_succ])
  refine wpAnyH_take (i := 36) (oi := { dst := some 100, op := Go.Op.binOp Go.BinOp.eql 4 (Go.Operand.tmp 94) (Go.Operand.tmp 99) 4, type := 4, pos := "outright.go:75", after := #[{ on := 30, ground := Go.Ground.data }, { on := 35, ground := Go.Ground.data }, { on := 28, ground := Go.Ground.guard }], guard := some (28, true) }) (v := ?_) rfl (by kernel_rfl) (by kernel_rfl) (by kernel_rfl) (fun _ _ _ h => h) (Or.inl ⟨by rfl, ?_⟩) (by assumption) ?_
  rotate_left 1
  · intro w' hSw; (go_simp <;> (with_reducible rfl))
  (try simp only [Act.put, List.setIfInBounds_toArray, List.set_cons_zero, List.set_cons_succ])
  refine wpAnyH_take (i := 37) (oi := { dst := some 101, op := Go.Op.pick (Go.Operand.tmp 92) (Go.Operand.tmp 100) (Go.Operand.const (Go.Value.bool false)), type := 4, pos := "outright.go:75", after := #[{ on := 28, ground := Go.Ground.data }, { on := 36, ground := Go.Ground.data }], guard := none }) (v := ?_) rfl (by kernel_rfl) (by kernel_rfl) (by kernel_rfl) (fun _ _ _ h => h) (Or.inl ⟨by rfl, ?_⟩) (by assumption) ?_
  rotate_left 1
  · intro w' hSw; (go_simp <;> (with_reducible rfl))
  (try simp only [Act.put, List.setIfInBounds_toArray, List.set_cons_zero, List.set_cons_succ])
  refine wpAnyH_take (i := 38) (oi := { dst := some 102, op := Go.Op.move (Go.Operand.tmp 101), type := 4, pos := "outright.go:75", after := #[{ on := 37, ground := Go.Ground.data }, { on := 30, ground := Go.Ground.chain }], guard := none }) (v := ?_) rfl (by kernel_rfl) (by kernel_rfl) (by kernel_rfl) (fun _ _ _ h => h) (Or.inl ⟨by rfl, ?_⟩) (by assumption) ?_
  rotate_left 1
  · intro w' hSw; (go_simp <;> (with_reducible rfl))
  (try simp only [Act.put, List.setIfInBounds_toArray, List.set_cons_zero, List.set_cons_succ])
  refine wpAnyH_take (i := 39) (oi := { dst := some 103, op := Go.Op.move (Go.Operand.tmp 13), type := 50, pos := "outright.go:75", after := #[{ on := 38, ground := Go.Ground.guard }], guard := some (38, true) }) (v := ?_) rfl (by kernel_rfl) (by kernel_rfl) (by kernel_rfl) (fun _ _ _ h => h) (Or.inl ⟨by rfl, ?_⟩) (by assumption) ?_
  rotate_left 1
  · intro w' hSw; (go_simp <;> (with_reducible rfl))
  (try simp only [Act.put, List.setIfInBounds_toArray, List.set_cons_zero, List.set_cons_succ])
  refine wpAnyH_ready (rs := [40]) (by kernel_rfl) (by simp) ?_
  refine AllReadyH.cons (o := { dst := some 104, op := Go.Op.call { callee := Go.Callee.value (Go.Operand.tmp 103), args := #[Go.Operand.const (Go.Value.int Go.IntKind.i64 12), Go.Operand.const (Go.Value.int Go.IntKind.i64 13)], argTypes := #[3, 3] }, type := 4, pos := "outright.go:75", after := #[{ on := 39, ground := Go.Ground.data }, { on := 38, ground := Go.Ground.chain }, { on := 38, ground := Go.Ground.guard }], guard := some (38, true) }) rfl (fun K hK => ?_) AllReadyH.nil
  go_simp
  (go_at_call 24; (with_reducible refine (same_at _ _ g g' c3 c4 m 12 13 12 13 L L' true _ rfl rfl (by omega) (by omega) hk3 hk4 HH.out.bp HH.out.bq HH.out.r1 HH.out.r2 HP.out.s12).mono ?_); rintro e w7 ⟨rfl, k7, hk7⟩; have HH := Lib.hid (Held.drewN_ HH.out hk7); clear hk7)
  refine hK.out _ _ ?_ (fun hHeld => ?_)
  · exact HH.out.cells
  clear hK K
  (try simp only [Act.put, List.setIfInBounds_toArray, List.set_cons_zero, List.set_cons_succ])
  as_aux_lemma =>
  refine wpAnyH_take (i := 41) (oi := { dst := some 105, op := Go.Op.pick (Go.Operand.tmp 102) (Go.Operand.tmp 104) (Go.Operand.const (Go.Value.bool false)), type := 4, pos := "outright.go:75", after := #[{ on := 38, ground := Go.Ground.data }, { on := 40, ground := Go.Ground.data }], guard := none }) (v := ?_) rfl (by kernel_rfl) (by kernel_rfl) (by kernel_rfl) (fun _ _ _ h => h) (Or.inl ⟨by rfl, ?_⟩) (by assumption) ?_
  rotate_left 1
  · intro w' hSw; (go_simp <;> (with_reducible rfl))
  (try simp only [Act.put, List.setIfInBounds_toArray, List.set_cons_zero, List.set_cons_succ])
  refine wpAnyH_take (i := 42) (oi := { dst := some 106, op := Go.Op.move (Go.Operand.tmp 105), type := 4, pos := "outright.go:75", after := #[{ on := 41, ground := Go.Ground.data }, { on := 40, ground := Go.Ground.chain }], guard := none }) (v := ?_) rfl (by kernel_rfl) (by kernel_rfl) (by kernel_rfl) (fun _ _ _ h => h) (Or.inl ⟨by rfl, ?_⟩) (by assumption) ?_
  rotate_left 1
  · intro w' hSw; (go_simp <;> (with_reducible rfl))
  (try simp only [Act.put, List.setIfInBounds_toArray, List.set_cons_zero, List.set_cons_succ])
  refine wpAnyH_take (i := 43) (oi := { dst := some 107, op := Go.Op.move (Go.Operand.tmp 13), type := 50, pos := "outright.go:75", after := #[{ on := 42, ground := Go.Ground.guard }], guard := some (42, true) }) (v := ?_) rfl (by kernel_rfl) (by kernel_rfl) (by kernel_rfl) (fun _ _ _ h => h) (Or.inl ⟨by rfl, ?_⟩) (by assumption) ?_
  rotate_left 1
  · intro w' hSw; (go_simp <;> (with_reducible rfl))
  (try simp only [Act.put, List.setIfInBounds_toArray, List.set_cons_zero, List.set_cons_succ])
  refine wpAnyH_take (i := 45) (oi := { dst := some 109, op := Go.Op.fieldAddr 27 (Go.Operand.tmp 6) 4, type := 0, pos := "outright.go:75", after := #[{ on := 42, ground := Go.Ground.guard }], guard := some (42, true) }) (v := ?_) rfl (by kernel_rfl) (by kernel_rfl) (by kernel_rfl) (fun _ _ _ h => h) (Or.inl ⟨by rfl, ?_⟩) (by assumption) ?_
  rotate_left 1
  · intro w' hSw; (go_simp <;> (with_reducible rfl))
  (try simp only [Act.put, List.setIfInBounds_toArray, List.set_cons_zero, List.set_cons_succ])
  refine wpAnyH_take (i := 46) (oi := { dst := some 110, op := Go.Op.load 5 (Go.Operand.tmp 109), type := 5, pos := "outright.go:75", after := #[{ on := 45, ground := Go.Ground.data }, { on := 42, ground := Go.Ground.guard }], guard := some (42, true) }) (v := ?_) rfl (by kernel_rfl) (by kernel_rfl) (by kernel_rfl) (fun _ _ _ h => h) (Or.inl ⟨by rfl, ?_⟩) (by assumption) ?_
  rotate_left 1
  · intro w' hSw; (go_simp <;> (with_reducible rfl))
  (try simp only [Act.put, List.setIfInBounds_toArray, List.set_cons_zero, List.set_cons_succ])
  refine wpAnyH_take (i := 47) (oi := { dst := some 111, op := Go.Op.fieldAddr 27 (Go.Operand.tmp 7) 4, type := 0, pos := "outright.go:75", after := #[{ on := 42, ground := Go.Ground.guard }], guard := some (42, true) }) (v := ?_) rfl (by kernel_rfl) (by kernel_rfl) (by kernel_rfl) (fun _ _ _ h => h) (Or.inl ⟨by rfl, ?_⟩) (by assumption) ?_
  rotate_left 1
  · intro w' hSw; (go_simp <;> (with_reducible rfl))
  (try simp only [Act.put, List.setIfInBounds_toArray, List.set_cons_zero, List.set_cons_succ])
  refine wpAnyH_take (i := 48) (oi := { dst := some 112, op := Go.Op.load 5 (Go.Operand.tmp 111), type := 5, pos := "outright.go:75", after := #[{ on := 47, ground := Go.Ground.data }, { on := 42, ground := Go.Ground.guard }], guard := some (42, true) }) (v := ?_) rfl (by kernel_rfl) (by kernel_rfl) (by kernel_rfl) (fun _ _ _ h => h) (Or.inl ⟨by rfl, ?_⟩) (by assumption) ?_
  rotate_left 1
  · intro w' hSw; (go_simp <;> (with_reducible rfl))
  (try simp only [Act.put, List.setIfInBounds_toArray, List.set_cons_zero, List.set_cons_succ])
  refine wpAnyH_take (i := 49) (oi := { dst := some 113, op := Go.Op.binOp Go.BinOp.eql 5 (Go.Operand.tmp 110) (Go.Operand.tmp 112) 5, type := 4, pos := "outright.go:75", after := #[{ on := 46, ground := Go.Ground.data }, { on := 48, ground := Go.Ground.data }, { on := 42, ground := Go.Ground.guard }], guard := some (42, true) }) (v := ?_) rfl (by kernel_rfl) (by kernel_rfl) (by kernel_rfl) (fun _ _ _ h => h) (Or.inl ⟨by rfl, ?_⟩) (by assumption) ?_
  rotate_left 1
  · intro w' hSw; (go_simp <;> (with_reducible rfl))
  (try simp only [Act.put, List.setIfInBounds_toArray, List.set_cons_zero, List.set_cons_succ])
  refine wpAnyH_ready (rs := [44]) (by kernel_rfl) (by simp) ?_
  refine AllReadyH.cons (o := { dst := some 108, op := Go.Op.call { callee := Go.Callee.value (Go.Operand.tmp 107), args := #[Go.Operand.const (Go.Value.int Go.IntKind.i64 13), Go.Operand.const (Go.Value.int Go.IntKind.i64 14)], argTypes := #[3, 3] }, type := 4, pos := "outright.go:75", after := #[{ on := 43, ground := Go.Ground.data }, { on := 42, ground := Go.Ground.chain }, { on := 42, ground := Go.Ground.guard }], guard := some (42, true) }) rfl (fun K hK => ?_) AllReadyH.nil
  go_simp
  (go_at_call 24; (with_reducible refine (same_at _ _ g g' c3 c4 m 13 14 13 14 L L' (fl == fl') _ rfl rfl (by omega) (by omega) hk3 hk4 HH.out.bp HH.out.bq HH.out.r1 HH.out.r2 HP.out.s13).mono ?_); rintro e w7 ⟨rfl, k7, hk7⟩; have HH := Lib.hid (Held.drewN_ HH.out hk7); clear hk7)
  refine hK.out _ _ ?_ (fun hHeld => ?_)
  · exact HH.out.cells
  clear hK K
  (try simp only [Act.put, List.setIfInBounds_toArray, List.set_cons_zero, List.set_cons_succ])
  refine wpAnyH_take (i := 50) (oi := { dst := some 114, op := Go.Op.binOp Go.BinOp.eql 4 (Go.Operand.tmp 108) (Go.Operand.tmp 113) 4, type := 4, pos := "outright.go:75", after := #[{ on := 44, ground := Go.Ground.data }, { on := 49, ground := Go.Ground.data }, { on := 42, ground := Go.Ground.guard }], guard := some (42, true) }) (v := ?_) rfl (by kernel_rfl) (by kernel_rfl) (by kernel_rfl) (fun _ _ _ h => h) (Or.inl ⟨by rfl, ?_⟩) (by assumption) ?_
  rotate_left 1
  · intro w' hSw; (go_simp <;> (with_reducible rfl))
  (try simp only [Act.put, List.setIfInBounds_toArray, List.set_cons_zero, List.set_cons_succ])
  refine wpAnyH_take (i := 51) (oi := { dst := some 115, op := Go.Op.pick (Go.Operand.tmp 106) (Go.Operand.tmp 114) (Go.Operand.const (Go.Value.bool false)), type := 4, pos := "outright.go:75", after := #[{ on := 42, ground := Go.Ground.data }, { on := 50, ground := Go.Ground.data }], guard := none }) (v := ?_) rfl (by kernel_rfl) (by kernel_rfl) (by kernel_rfl) (fun _ _ _ h => h) (Or.inl ⟨by rfl, ?_⟩) (by assumption) ?_
  rotate_left 1
  · intro w' hSw; (go_simp <;> (with_reducible rfl))
  (try simp only [Act.put, List.setIfInBounds_toArray, List.set_cons_zero, List.set_cons_succ])
  refine wpAnyH_take (i := 52) (oi := { dst := some 116, op := Go.Op.move (Go.Operand.tmp 115), type := 4, pos := "outright.go:75", after := #[{ on := 51, ground := Go.Ground.data }, { on := 44, ground := Go.Ground.chain }], guard := none }) (v := ?_) rfl (by kernel_rfl) (by kernel_rfl) (by kernel_rfl) (fun _ _ _ h => h) (Or.inl ⟨by rfl, ?_⟩) (by assumption) ?_
  rotate_left 1
  · intro w' hSw; (go_simp <;> (with_reducible rfl))
  (try simp only [Act.put, List.setIfInBounds_toArray, List.set_cons_zero, List.set_cons_succ])
  refine wpAnyH_take (i := 53) (oi := { dst := some 117, op := Go.Op.move (Go.Operand.tmp 13), type := 50, pos := "outright.go:75", after := #[{ on := 52, ground := Go.Ground.guard }], guard := some (52, true) }) (v := ?_) rfl (by kernel_rfl) (by kernel_rfl) (by kernel_rfl) (fun _ _ _ h => h) (Or.inl ⟨by rfl, ?_⟩) (by assumption) ?_
  rotate_left 1
  · intro w' hSw; (go_simp <;> (with_reducible rfl))
  (try simp only [Act.put, List.setIfInBounds_toArray, List.set_cons_zero, List.set_cons_succ])
  refine wpAnyH_take (i := 55) (oi := { dst := some 119, op := Go.Op.fieldAddr 27 (Go.Operand.tmp 6) 5, type := 0, pos := "outright.go:75", after := #[{ on := 52, ground := Go.Ground.guard }], guard := some (52, true) }) (v := ?_) rfl (by kernel_rfl) (by kernel_rfl) (by kernel_rfl) (fun _ _ _ h => h) (Or.inl ⟨by rfl, ?_⟩) (by assumption) ?_
  rotate_left 1
  · intro w' hSw; (go_simp <;> (with_reducible rfl))
  (try simp only [Act.put, List.setIfInBounds_toArray, List.set_cons_zero, List.set_cons_succ])
  refine wpAnyH_take (i := 56) (oi := { dst := some 120, op := Go.Op.load 23 (Go.Operand.tmp 119), type := 23, pos := "outright.go:75", after := #[{ on := 55, ground := Go.Ground.data }, { on := 52, ground := Go.Ground.guard }], guard := some (52, true) }) (v := ?_) rfl (by kernel_rfl) (by kernel_rfl) (by kernel_rfl) (fun _ _ _ h => h) (Or.inl ⟨by rfl, ?_⟩) (by assumption) ?_
  rotate_left 1
  · intro w' hSw; (go_simp <;> (with_reducible rfl))
  (try simp only [Act.put, List.setIfInBounds_toArray, List.set_cons_zero, List.set_cons_succ])
  refine wpAnyH_take (i := 57) (oi := { dst := some 121, op := Go.Op.fieldAddr 27 (Go.Operand.tmp 7) 5, type := 0, pos := "outright.go:75", after := #[{ on := 52, ground := Go.Ground.guard }], guard := some (52, true) }) (v := ?_) rfl (by kernel_rfl) (by kernel_rfl) (by kernel_rfl) (fun _ _ _ h => h) (Or.inl ⟨by rfl, ?_⟩) (by assumption) ?_
  rotate_left 1
  · intro w' hSw; (go_simp <;> (with_reducible rfl))
  (try simp only [Act.put, List.setIfInBounds_toArray, List.set_cons_zero, List.set_cons_succ])
  refine wpAnyH_take (i := 58) (oi := { dst := some 122, op := Go.Op.load 23 (Go.Operand.tmp 121), type := 23, pos := "outright.go:75", after := #[{ on := 57, ground := Go.Ground.data }, { on := 52, ground := Go.Ground.guard }], guard := some (52, true) }) (v := ?_) rfl (by kernel_rfl) (by kernel_rfl) (by kernel_rfl) (fun _ _ _ h => h) (Or.inl ⟨by rfl, ?_⟩) (by assumption) ?_
  rotate_left 1
  · intro w' hSw; (go_simp <;> (with_reducible rfl))
  (try simp only [Act.put, List.setIfInBounds_toArray, List.set_cons_zero, List.set_cons_succ])
  refine wpAnyH_take (i := 59) (oi := { dst := some 123, op := Go.Op.binOp Go.BinOp.eql 23 (Go.Operand.tmp 120) (Go.Operand.tmp 122) 23, type := 4, pos := "outright.go:75", after := #[{ on := 56, ground := Go.Ground.data }, { on := 58, ground := Go.Ground.data }, { on := 52, ground := Go.Ground.guard }], guard := some (52, true) }) (v := ?_) rfl (by kernel_rfl) (by kernel_rfl) (by kernel_rfl) (fun _ _ _ h => h) (Or.inl ⟨by rfl, ?_⟩) (by assumption) ?_
  rotate_left 1
  · intro w' hSw; (go_simp <;> (with_reducible rfl))
  (try simp only [Act.put, List.setIfInBounds_toArray, List.set_cons_zero, List.set_cons_succ])
  refine wpAnyH_ready (rs := [54]) (by kernel_rfl) (by simp) ?_
  refine AllReadyH.cons (o := { dst := some 118, op := Go.Op.call { callee := Go.Callee.value (Go.Operand.tmp 117), args := #[Go.Operand.const (Go.Value.int Go.IntKind.i64 14), Go.Operand.const (Go.Value.int Go.IntKind.i64 16)], argTypes := #[3, 3] }, type := 4, pos := "outright.go:75", after := #[{ on := 53, ground := Go.Ground.data }, { on := 52, ground := Go.Ground.chain }, { on := 52, ground := Go.Ground.guard }], guard := some (52, true) }) rfl (fun K hK => ?_) AllReadyH.nil
  go_simp
  (go_at_call 24; (with_reducible refine (same_at _ _ g g' c3 c4 m 14 16 14 16 L L' (wn == wn') _ rfl rfl (by omega) (by omega) hk3 hk4 HH.out.bp HH.out.bq HH.out.r1 HH.out.r2 HP.out.s14).mono ?_); rintro e w7 ⟨rfl, k7, hk7⟩; have HH := Lib.hid (Held.drewN_ HH.out hk7); clear hk7)
  refine hK.out _ _ ?_ (fun hHeld => ?_)
  · exact HH.out.cells
  clear hK K
  (try simp only [Act.put, List.setIfInBounds_toArray, List.set_cons_zero, List.set_cons_succ])
  as_aux_lemma =>
  refine wpAnyH_take (i := 60) (oi := { dst := some 124, op := Go.Op.binOp Go.BinOp.eql 4 (Go.Operand.tmp 118) (Go.Operand.tmp 123) 4, type := 4, pos := "outright.go:75", after := #[{ on := 54, ground := Go.Ground.data }, { on := 59, ground := Go.Ground.data }, { on := 52, ground := Go.Ground.guard }], guard := some (52, true) }) (v := ?_) rfl (by kernel_rfl) (by kernel_rfl) (by kernel_rfl) (fun _ _ _ h => h) (Or.inl ⟨by rfl, ?_⟩) (by assumption) ?_
  rotate_left 1
  · intro w' hSw; (go_simp <;> (with_reducible rfl))
  (try simp only [Act.put, List.setIfInBounds_toArray, List.set_cons_zero, List.set_cons_succ])
  refine wpAnyH_take (i := 61) (oi := { dst := some 125, op := Go.Op.pick (Go.Operand.tmp 116) (Go.Operand.tmp 124) (Go.Operand.const (Go.Value.bool false)), type := 4, pos := "outright.go:75", after := #[{ on := 52, ground := Go.Ground.data }, { on := 60, ground := Go.Ground.data }], guard := none }) (v := ?_) rfl (by kernel_rfl) (by kernel_rfl) (by kernel_rfl) (fun _ _ _ h => h) (Or.inl ⟨by rfl, ?_⟩) (by assumption) ?_
  rotate_left 1
  · intro w' hSw; (go_simp <;> (with_reducible rfl))
  (try simp only [Act.put, List.setIfInBounds_toArray, List.set_cons_zero, List.set_cons_succ])
  refine wpAnyH_take (i := 62) (oi := { dst := some 126, op := Go.Op.move (Go.Operand.tmp 125), type := 4, pos := "outright.go:75", after := #[{ on := 61, ground := Go.Ground.data }, { on := 54, ground := Go.Ground.chain }], guard := none }) (v := ?_) rfl (by kernel_rfl) (by kernel_rfl) (by kernel_rfl) (fun _ _ _ h => h) (Or.inl ⟨by rfl, ?_⟩) (by assumption) ?_
  rotate_left 1
  · intro w' hSw; (go_simp <;> (with_reducible rfl))
  (try simp only [Act.put, List.setIfInBounds_toArray, List.set_cons_zero, List.set_cons_succ])
  refine wpAnyH_take (i := 63) (oi := { dst := some 127, op := Go.Op.move (Go.Operand.tmp 13), type := 50, pos := "outright.go:75", after := #[{ on := 62, ground := Go.Ground.guard }], guard := some (62, true) }) (v := ?_) rfl (by kernel_rfl) (by kernel_rfl) (by kernel_rfl) (fun _ _ _ h => h) (Or.inl ⟨by rfl, ?_⟩) (by assumption) ?_
  rotate_left 1
  · intro w' hSw; (go_simp <;> (with_reducible rfl))
  (try simp only [Act.put, List.setIfInBounds_toArray, List.set_cons_zero, List.set_cons_succ])
  refine wpAnyH_take (i := 65) (oi := { dst := some 129, op := Go.Op.fieldAddr 27 (Go.Operand.tmp 6) 6, type := 0, pos := "outright.go:75", after := #[{ on := 62, ground := Go.Ground.guard }], guard := some (62, true) }) (v := ?_) rfl (by kernel_rfl) (by kernel_rfl) (by kernel_rfl) (fun _ _ _ h => h) (Or.inl ⟨by rfl, ?_⟩) (by assumption) ?_
  rotate_left 1
  · intro w' hSw; (go_simp <;> (with_reducible rfl))
  (try simp only [Act.put, List.setIfInBounds_toArray, List.set_cons_zero, List.set_cons_succ])
  refine wpAnyH_take (i := 66) (oi := { dst := some 130, op := Go.Op.load 23 (Go.Operand.tmp 129), type := 23, pos := "outright.go:75", after := #[{ on := 65, ground := Go.Ground.data }, { on := 62, ground := Go.Ground.guard }], guard := some (62, true) }) (v := ?_) rfl (by kernel_rfl) (by kernel_rfl) (by kernel_rfl) (fun _ _ _ h => h) (Or.inl ⟨by rfl, ?_⟩) (by assumption) ?_
  rotate_left 1
  · intro w' hSw; (go_simp <;> (with_reducible rfl))
  (try simp only [Act.put, List.setIfInBounds_toArray, List.set_cons_zero, List.set_cons_succ])
  refine wpAnyH_take (i := 67) (oi := { dst := some 131, op := Go.Op.fieldAddr 27 (Go.Operand.tmp 7) 6, type := 0, pos := "outright.go:75", after := #[{ on := 62, ground := Go.Ground.guard }], guard := some (62, true) }) (v := ?_) rfl (by kernel_rfl) (by kernel_rfl) (by kernel_rfl) (fun _ _ _ h => h) (Or.inl ⟨by rfl, ?_⟩) (by assumption) ?_
  rotate_left 1
  · intro w' hSw; (go_simp <;> (with_reducible rfl))
  (try simp only [Act.put, List.setIfInBounds_toArray, List.set_cons_zero, List.set_cons_succ])
  refine wpAnyH_take (i := 68) (oi := { dst := some 132, op := Go.Op.load 23 (Go.Operand.tmp 131), type := 23, pos := "outright.go:75", after := #[{ on := 67, ground := Go.Ground.data }, { on := 62, ground := Go.Ground.guard }], guard := some (62, true) }) (v := ?_) rfl (by kernel_rfl) (by kernel_rfl) (by kernel_rfl) (fun _ _ _ h => h) (Or.inl ⟨by rfl, ?_⟩) (by assumption) ?_
  rotate_left 1
  · intro w' hSw; (go_simp <;> (with_reducible rfl))
  (try simp only [Act.put, List.setIfInBounds_toArray, List.set_cons_zero, List.set_cons_succ])
  refine wpAnyH_take (i := 69) (oi := { dst := some 133, op := Go.Op.binOp Go.BinOp.eql 23 (Go.Operand.tmp 130) (Go.Operand.tmp 132) 23, type := 4, pos := "outright.go:75", after := #[{ on := 66, ground := Go.Ground.data }, { on := 68, ground := Go.Ground.data }, { on := 62, ground := Go.Ground.guard }], guard := some (62, true) }) (v := ?_) rfl (by kernel_rfl) (by kernel_rfl) (by kernel_rfl) (fun _ _ _ h => h) (Or.inl ⟨by rfl, ?_⟩) (by assumption) ?_
  rotate_left 1
  · intro w' hSw; (go_simp <;> (with_reducible rfl))
  (try simp only [Act.put, List.setIfInBounds_toArray, List.set_cons_zero, List.set_cons_succ])
  refine wpAnyH_ready (rs := [64]) (by kernel_rfl) (by simp) ?_
  refine AllReadyH.cons (o := { dst := some 128, op := Go.Op.call { callee := Go.Callee.value (Go.Operand.tmp 127), args := #[Go.Operand.const (Go.Value.int Go.IntKind.i64 18), Go.Operand.const (Go.Value.int Go.IntKind.i64 20)], argTypes := #[3, 3] }, type := 4, pos := "outright.go:75", after := #[{ on := 63, ground := Go.Ground.data }, { on := 62, ground := Go.Ground.chain }, { on := 62, ground := Go.Ground.guard }], guard := some (62, true) }) rfl (fun K hK => ?_) AllReadyH.nil
  go_simp
  (go_at_call 24; (with_reducible refine (same_at _ _ g g' c3 c4 m 18 20 18 20 L L' (ug == ug') _ rfl rfl (by omega) (by omega) hk3 hk4 HH.out.bp HH.out.bq HH.out.r1 HH.out.r2 HP.out.s18).mono ?_); rintro e w7 ⟨rfl, k7, hk7⟩; have HH := Lib.hid (Held.drewN_ HH.out hk7); clear hk7)
  refine hK.out _ _ ?_ (fun hHeld => ?_)
  · exact HH.out.cells
  clear hK K
  (try simp only [Act.put, List.setIfInBounds_toArray, List.set_cons_zero, List.set_cons_succ])
  refine wpAnyH_take (i := 70) (oi := { dst := some 134, op := Go.Op.binOp Go.BinOp.eql 4 (Go.Operand.tmp 128) (Go.Operand.tmp 133) 4, type := 4, pos := "outright.go:75", after := #[{ on := 64, ground := Go.Ground.data }, { on := 69, ground := Go.Ground.data }, { on := 62, ground := Go.Ground.guard }], guard := some (62, true) }) (v := ?_) rfl (by kernel_rfl) (by kernel_rfl) (by kernel_rfl) (fun _ _ _ h => h) (Or.inl ⟨by rfl, ?_⟩) (by assumption) ?_
  rotate_left 1
  · intro w' hSw; (go_simp <;> (with_reducible rfl))
  (try simp only [Act.put, List.setIfInBounds_toArray, List.set_cons_zero, List.set_cons_succ])
  refine wpAnyH_take (i := 71) (oi := { dst := some 135, op := Go.Op.pick (Go.Operand.tmp 126) (Go.Operand.tmp 134) (Go.Operand.const (Go.Value.bool false)), type := 4, pos := "outright.go:75", after := #[{ on := 62, ground := Go.Ground.data }, { on := 70, ground := Go.Ground.data }], guard := none }) (v := ?_) rfl (by kernel_rfl) (by kernel_rfl) (by kernel_rfl) (fun _ _ _ h => h) (Or.inl ⟨by rfl, ?_⟩) (by assumption) ?_
  rotate_left 1
  · intro w' hSw; (go_simp <;> (with_reducible rfl))
  (try simp only [Act.put, List.setIfInBounds_toArray, List.set_cons_zero, List.set_cons_succ])
  refine wpAnyH_take (i := 72) (oi := { dst := some 136, op := Go.Op.move (Go.Operand.tmp 135), type := 4, pos := "outright.go:75", after := #[{ on := 71, ground := Go.Ground.data }, { on := 64, ground := Go.Ground.chain }], guard := none }) (v := ?_) rfl (by kernel_rfl) (by kernel_rfl) (by kernel_rfl) (fun _ _ _ h => h) (Or.inl ⟨by rfl, ?_⟩) (by assumption) ?_
  rotate_left 1
  · intro w' hSw; (go_simp <;> (with_reducible rfl))
  (try simp only [Act.put, List.setIfInBounds_toArray, List.set_cons_zero, List.set_cons_succ])
  refine wpAnyH_take (i := 73) (oi := { dst := some 137, op := Go.Op.move (Go.Operand.tmp 13), type := 50, pos := "outright.go:75", after := #[{ on := 72, ground := Go.Ground.guard }], guard := some (72, true) }) (v := ?_) rfl (by kernel_rfl) (by kernel_rfl) (by kernel_rfl) (fun _ _ _ h => h) (Or.inl ⟨by rfl, ?_⟩) (by assumption) ?_
  rotate_left 1
  · intro w' hSw; (go_simp <;> (with_reducible rfl))
  (try simp only [Act.put, List.setIfInBounds_toArray, List.set_cons_zero, List.set_cons_succ])
  refine wpAnyH_take (i := 74) (oi := { dst := some 138, op := Go.Op.load 25 (Go.Operand.tmp 9), type := 25, pos := "outright.go:75", after := #[{ on := 72, ground := Go.Ground.guard }], guard := some (72, true) }) (v := ?_) rfl (by kernel_rfl) (by kernel_rfl) (by kernel_rfl) (fun _ _ _ h => h) (Or.inl ⟨by rfl, ?_⟩) (by assumption) ?_
  rotate_left 1
  · intro w' hSw; (go_simp <;> (with_reducible rfl))
  (try simp only [Act.put, List.setIfInBounds_toArray, List.set_cons_zero, List.set_cons_succ])
  refine wpAnyH_take (i := 75) (oi := { dst := some 139, op := Go.Op.call { callee := Go.Callee.builtin Go.Builtin.len, args := #[Go.Operand.tmp 138], argTypes := #[25] }, type := 3, pos := "outright.go:75", after := #[{ on := 74, ground := Go.Ground.data }, { on := 72, ground := Go.Ground.guard }], guard := some (72, true) }) (v := ?_) rfl (by kernel_rfl) (by kernel_rfl) (by kernel_rfl) (fun _ _ _ h => h) (Or.inl ⟨by rfl, ?_⟩) (by assumption) ?_
  rotate_left 1
  · intro w' hSw; (go_simp <;> (with_reducible rfl))
  (try simp only [Act.put, List.setIfInBounds_toArray, List.set_cons_zero, List.set_cons_succ])
  refine wpAnyH_ready (rs := [76]) (by kernel_rfl) (by simp) ?_
  refine AllReadyH.cons (o := { dst := some 140, op := Go.Op.call { callee := Go.Callee.value (Go.Operand.tmp 137), args := #[Go.Operand.const (Go.Value.int Go.IntKind.i64 20), Go.Operand.tmp 139], argTypes := #[3, 3] }, type := 4, pos := "outright.go:75", after := #[{ on := 73, ground := Go.Ground.data }, { on := 75, ground := Go.Ground.data }, { on := 72, ground := Go.Ground.chain }, { on := 72, ground := Go.Ground.guard }], guard := some (72, true) }) rfl (fun K hK => ?_) AllReadyH.nil
  go_simp
  (go_at_call 24; (with_reducible refine (H20.out _ HH.out.bp HH.out.bq HH.out.r1 HH.out.r2).mono ?_); rintro e w7 ⟨rfl, k7, hk7⟩; have HH := Lib.hid (Held.drewN_ HH.out hk7); clear hk7)
  refine hK.out _ _ ?_ (fun hHeld => ?_)
  · exact HH.out.cells
  clear hK K
  (try simp only [Act.put, List.setIfInBounds_toArray, List.set_cons_zero, List.set_cons_succ])
  refine wpAnyH_take (i := 77) (oi := { dst := some 141, op := Go.Op.pick (Go.Operand.tmp 136) (Go.Operand.tmp 140) (Go.Operand.const (Go.Value.bool false)), type := 4, pos := "outright.go:75", after := #[{ on := 72, ground := Go.Ground.data }, { on := 76, ground := Go.Ground.data }], guard := none }) (v := ?_) rfl (by kernel_rfl) (by kernel_rfl) (by kernel_rfl) (fun _ _ _ h => h) (Or.inl ⟨by rfl, ?_⟩) (by assumption) ?_
  rotate_left 1
  · intro w' hSw; (go_simp <;> (with_reducible rfl))
  (try simp only [Act.put, List.setIfInBounds_toArray, List.set_cons_zero, List.set_cons_succ])
  refine wpAnyH_take (i := 78) (oi := { dst := some 142, op := Go.Op.move (Go.Operand.tmp 141), type := 4, pos := "outright.go:75", after := #[{ on := 77, ground := Go.Ground.data }, { on := 76, ground := Go.Ground.chain }], guard := none }) (v := ?_) rfl (by kernel_rfl) (by kernel_rfl) (by kernel_rfl) (fun _ _ _ h => h) (Or.inl ⟨by rfl, ?_⟩) (by assumption) ?_
  rotate_left 1
  · intro w' hSw; (go_simp <;> (with_reducible rfl))
  (try simp only [Act.put, List.setIfInBounds_toArray, List.set_cons_zero, List.set_cons_succ])
  refine wpAnyH_take (i := 79) (oi := { dst := some 143, op := Go.Op.load 27 (Go.Operand.tmp 6), type := 27, pos := "outright.go:75", after := #[{ on := 78, ground := Go.Ground.guard }], guard := some (78, true) }) (v := ?_) rfl (by kernel_rfl) (by kernel_rfl) (by kernel_rfl) (fun _ _ _ h => h) (Or.inl ⟨by rfl, ?_⟩) (by assumption) ?_
  rotate_left 1
  · intro w' hSw; (go_simp <;> (with_reducible rfl))
  (try simp only [Act.put, List.setIfInBounds_toArray, List.set_cons_zero, List.set_cons_succ])
  refine wpAnyH_take (i := 81) (oi := { dst := some 145, op := Go.Op.fieldAddr 27 (Go.Operand.tmp 6) 8, type := 0, pos := "outright.go:75", after := #[{ on := 78, ground := Go.Ground.guard }], guard := some (78, true) }) (v := ?_) rfl (by kernel_rfl) (by kernel_rfl) (by kernel_rfl) (fun _ _ _ h => h) (Or.inl ⟨by rfl, ?_⟩) (by assumption) ?_
  rotate_left 1
  · intro w' hSw; (go_simp <;> (with_reducible rfl))
  (try simp only [Act.put, List.setIfInBounds_toArray, List.set_cons_zero, List.set_cons_succ])
  refine wpAnyH_take (i := 82) (oi := { dst := some 146, op := Go.Op.load 25 (Go.Operand.tmp 145), type := 25, pos := "outright.go:75", after := #[{ on := 81, ground := Go.Ground.data }, { on := 78, ground := Go.Ground.guard }], guard := some (78, true) }) (v := ?_) rfl (by kernel_rfl) (by kernel_rfl) (by kernel_rfl) (fun _ _ _ h => h) (Or.inl ⟨by rfl, ?_⟩) (by assumption) ?_
  rotate_left 1
  · intro w' hSw; (go_simp <;> (with_reducible rfl))
  (try simp only [Act.put, List.setIfInBounds_toArray, List.set_cons_zero, List.set_cons_succ])
  refine wpAnyH_take (i := 83) (oi := { dst := some 147, op := Go.Op.call { callee := Go.Callee.builtin Go.Builtin.len, args := #[Go.Operand.tmp 146], argTypes := #[25] }, type := 3, pos := "outright.go:75", after := #[{ on := 82, ground := Go.Ground.data }, { on := 78, ground := Go.Ground.guard }], guard := some (78, true) }) (v := ?_) rfl (by kernel_rfl) (by kernel_rfl) (by kernel_rfl) (fun _ _ _ h => h) (Or.inl ⟨by rfl, ?_⟩) (by assumption) ?_
  rotate_left 1
  · intro w' hSw; (go_simp <;> (with_reducible rfl))
  (try simp only [Act.put, List.setIfInBounds_toArray, List.set_cons_zero, List.set_cons_succ])
  refine wpAnyH_take (i := 84) (oi := { dst := some 148, op := Go.Op.convert 3 22 (Go.Operand.tmp 147), type := 22, pos := "outright.go:75", after := #[{ on := 83, ground := Go.Ground.data }, { on := 78, ground := Go.Ground.guard }], guard := some (78, true) }) (v := ?_) rfl (by kernel_rfl) (by kernel_rfl) (by kernel_rfl) (fun _ _ _ h => h) (Or.inl ⟨by rfl, ?_⟩) (by assumption) ?_
  rotate_left 1
  · intro w' hSw; (go_simp <;> (with_reducible rfl))
  (try simp only [Act.put, List.setIfInBounds_toArray, List.set_cons_zero, List.set_cons_succ])
  refine wpAnyH_take (i := 85) (oi := { dst := some 149, op := Go.Op.move (Go.Operand.tmp 14), type := 22, pos := "outright.go:75", after := #[{ on := 78, ground := Go.Ground.guard }], guard := some (78, true) }) (v := ?_) rfl (by kernel_rfl) (by kernel_rfl) (by kernel_rfl) (fun _ _ _ h => h) (Or.inl ⟨by rfl, ?_⟩) (by assumption) ?_
  rotate_left 1
  · intro w' hSw; (go_simp <;> (with_reducible rfl))
  (try simp only [Act.put, List.setIfInBounds_toArray, List.set_cons_zero, List.set_cons_succ])
  refine wpAnyH_take (i := 86) (oi := { dst := some 150, op := Go.Op.binOp Go.BinOp.add 22 (Go.Operand.tmp 148) (Go.Operand.tmp 149) 22, type := 22, pos := "outright.go:75", after := #[{ on := 84, ground := Go.Ground.data }, { on := 85, ground := Go.Ground.data }, { on := 78, ground := Go.Ground.guard }], guard := some (78, true) }) (v := ?_) rfl (by kernel_rfl) (by kernel_rfl) (by kernel_rfl) (fun _ _ _ h => h) (Or.inl ⟨by rfl, ?_⟩) (by assumption) ?_
  rotate_left 1
  · intro w' hSw; (go_simp <;> (with_reducible rfl))
  (try simp only [Act.put, List.setIfInBounds_toArray, List.set_cons_zero, List.set_cons_succ])
  refine wpAnyH_ready (rs := [80]) (by kernel_rfl) (by simp) ?_
  refine AllReadyH.cons (o := { dst := some 144, op := Go.Op.call { callee := Go.Callee.value (Go.Operand.func 17), args := #[Go.Operand.tmp 143], argTypes := #[27] }, type := 22, pos := "outright.go:75", after := #[{ on := 79, ground := Go.Ground.data }, { on := 78, ground := Go.Ground.chain }, { on := 78, ground := Go.Ground.guard }], guard := some (78, true) }) rfl (fun K hK => ?_) AllReadyH.nil
  go_simp
  (go_at_call 17; (with_reducible refine (Hlen.out _).mono ?_); rintro e w8 ⟨rfl, hb8⟩; have HH := Lib.hid (HH.out.on hb8); clear hb8)
  refine hK.out _ _ ?_ (fun hHeld => ?_)
  · exact HH.out.cells
  clear hK K
  (try simp only [Act.put, List.setIfInBounds_toArray, List.set_cons_zero, List.set_cons_succ])
  refine wpAnyH_take (i := 87) (oi := { dst := some 151, op := Go.Op.binOp Go.BinOp.eql 22 (Go.Operand.tmp 144) (Go.Operand.tmp 150) 22, type := 4, pos := "outright.go:75", after := #[{ on := 80, ground := Go.Ground.data }, { on := 86, ground := Go.Ground.data }, { on := 78, ground := Go.Ground.guard }], guard := some (78, true) }) (v := ?_) rfl (by kernel_rfl) (by kernel_rfl) (by kernel_rfl) (fun _ _ _ h => h) (Or.inl ⟨by rfl, ?_⟩) (by assumption) ?_
  rotate_left 1
  · intro w' hSw; (go_simp <;> (with_reducible rfl))
  (try simp only [Act.put, List.setIfInBounds_toArray, List.set_cons_zero, List.set_cons_succ])
  refine wpAnyH_take (i := 88) (oi := { dst := some 152, op := Go.Op.pick (Go.Operand.tmp 142) (Go.Operand.tmp 151) (Go.Operand.const (Go.Value.bool false)), type := 4, pos := "outright.go:75", after := #[{ on := 78, ground := Go.Ground.data }, { on := 87, ground := Go.Ground.data }], guard := none }) (v := ?_) rfl (by kernel_rfl) (by kernel_rfl) (by kernel_rfl) (fun _ _ _ h => h) (Or.inl ⟨by rfl, ?_⟩) (by assumption) ?_
  rotate_left 1
  · intro w' hSw; (go_simp <;> (with_reducible rfl))
  (try simp only [Act.put, List.setIfInBounds_toArray, List.set_cons_zero, List.set_cons_succ])
  refine wpAnyH_take (i := 89) (oi := { dst := some 153, op := Go.Op.move (Go.Operand.tmp 152), type := 4, pos := "outright.go:75", after := #[{ on := 88, ground := Go.Ground.data }, { on := 80, ground := Go.Ground.chain }], guard := none }) (v := ?_) rfl (by kernel_rfl) (by kernel_rfl) (by kernel_rfl) (fun _ _ _ h => h) (Or.inl ⟨by rfl, ?_⟩) (by assumption) ?_
  rotate_left 1
  · intro w' hSw; (go_simp <;> (with_reducible rfl))
  (try simp only [Act.put, List.setIfInBounds_toArray, List.set_cons_zero, List.set_cons_succ])
  refine wpAnyH_ready (rs := [90]) (by kernel_rfl) (by simp) ?_
  refine AllReadyH.cons (o := { dst := some 154, op := Go.Op.call { callee := Go.Callee.value (Go.Operand.func 19), args := #[], argTypes := #[] }, type := 4, pos := "outright.go:75", after := #[{ on := 89, ground := Go.Ground.chain }, { on := 89, ground := Go.Ground.guard }], guard := some (89, true) }) rfl (fun K hK => ?_) AllReadyH.nil
  go_simp
  (go_at_call 19; refine (wakes_any _).mono ?_; rintro e w8 ⟨rfl, hb8⟩; have HH := Lib.hid (HH.out.on hb8); clear hb8)
  refine hK.out _ _ ?_ (fun hHeld => ?_)
  · exact HH.out.cells
  clear hK K
  (try simp only [Act.put, List.setIfInBounds_toArray, List.set_cons_zero, List.set_cons_succ])
  refine wpAnyH_take (i := 91) (oi := { dst := some 155, op := Go.Op.pick (Go.Operand.tmp 153) (Go.Operand.tmp 154) (Go.Operand.const (Go.Value.bool false)), type := 4, pos := "outright.go:75", after := #[{ on := 89, ground := Go.Ground.data }, { on := 90, ground := Go.Ground.data }], guard := none }) (v := ?_) rfl (by kernel_rfl) (by kernel_rfl) (by kernel_rfl) (fun _ _ _ h => h) (Or.inl ⟨by rfl, ?_⟩) (by assumption) ?_
  rotate_left 1
  · intro w' hSw; (go_simp <;> (with_reducible rfl))
  (try simp only [Act.put, List.setIfInBounds_toArray, List.set_cons_zero, List.set_cons_succ])
  refine wpAnyH_take (i := 92) (oi := { dst := some 8, op := Go.Op.assign (Go.Operand.tmp 155), type := 4, pos := "outright.go:75", after := ([{ on := 91, ground := Go.Ground.data }, { on := 90, ground := Go.Ground.chain }, { on := 0, ground := Go.Ground.phase }, { on := 1, ground := Go.Ground.phase }, { on := 2, ground := Go.Ground.phase }, { on := 3, ground := Go.Ground.phase }, { on := 4, ground := Go.Ground.phase }, { on := 5, ground := Go.Ground.phase }, { on := 6, ground := Go.Ground.phase }, { on := 7, ground := Go.Ground.phase }, { on := 8, ground := Go.Ground.phase }, { on := 9, ground := Go.Ground.phase }, { on := 10, ground := Go.Ground.phase }, { on := 11, ground := Go.Ground.phase }, { on := 12, ground := Go.Ground.phase }, { on := 13, ground := Go.Ground.phase }, { on := 14, ground := Go.Ground.phase }, { on := 15, ground := Go.Ground.phase }, { on := 16, ground := Go.Ground.phase }, { on := 17, ground := Go.Ground.phase }, { on := 18, ground := Go.Ground.phase }, { on := 19, ground := Go.Ground.phase }, { on := 20, ground := Go.Ground.phase }, { on := 21, ground := Go.Ground.phase }, { on := 22, ground := Go.Ground.phase }, { on := 23, ground := Go.Ground.phase }, { on := 24, ground := Go.Ground.phase }, { on := 25, ground := Go.Ground.phase }, { on := 26, ground := Go.Ground.phase }, { on := 27, ground := Go.Ground.phase }, { on := 28, ground := Go.Ground.phase }, { on := 29, ground := Go.Ground.phase }, { on := 30, ground := Go.Ground.phase }, { on := 31, ground := Go.Ground.phase }, { on := 32, ground := Go.Ground.phase }, { on := 33, ground := Go.Ground.phase }, { on := 34, ground := Go.Ground.phase }, { on := 35, ground := Go.Ground.phase }, { on := 36, ground := Go.Ground.phase }, { on := 37, ground := Go.Ground.phase }, { on := 38, ground := Go.Ground.phase }, { on := 39, ground := Go.Ground.phase }, { on := 40, ground := Go.Ground.phase }, { on := 41, ground := Go.Ground.phase }, { on := 42, ground := Go.Ground.phase }, { on := 43, ground := Go.Ground.phase }, { on := 44, ground := Go.Ground.phase }].append [{ on := 45, ground := Go.Ground.phase }, { on := 46, ground := Go.Ground.phase }, { on := 47, ground := Go.Ground.phase }, { on := 48, ground := Go.Ground.phase }, { on := 49, ground := Go.Ground.phase }, { on := 50, ground := Go.Ground.phase }, { on := 51, ground := Go.Ground.phase }, { on := 52, ground := Go.Ground.phase }, { on := 53, ground := Go.Ground.phase }, { on := 54, ground := Go.Ground.phase }, { on := 55, ground := Go.Ground.phase }, { on := 56, ground := Go.Ground.phase }, { on := 57, ground := Go.Ground.phase }, { on := 58, ground := Go.Ground.phase }, { on := 59, ground := Go.Ground.phase }, { on := 60, ground := Go.Ground.phase }, { on := 61, ground := Go.Ground.phase }, { on := 62, ground := Go.Ground.phase }, { on := 63, ground := Go.Ground.phase }, { on := 64, ground := Go.Ground.phase }, { on := 65, ground := Go.Ground.phase }, { on := 66, ground := Go.Ground.phase }, { on := 67, ground := Go.Ground.phase }, { on := 68, ground := Go.Ground.phase }, { on := 69, ground := Go.Ground.phase }, { on := 70, ground := Go.Ground.phase }, { on := 71, ground := Go.Ground.phase }, { on := 72, ground := Go.Ground.phase }, { on := 73, ground := Go.Ground.phase }, { on := 74, ground := Go.Ground.phase }, { on := 75, ground := Go.Ground.phase }, { on := 76, ground := Go.Ground.phase }, { on := 77, ground := Go.Ground.phase }, { on := 78, ground := Go.Ground.phase }, { on := 79, ground := Go.Ground.phase }, { on := 80, ground := Go.Ground.phase }, { on := 81, ground := Go.Ground.phase }, { on := 82, ground := Go.Ground.phase }, { on := 83, ground := Go.Ground.phase }, { on := 84, ground := Go.Ground.phase }, { on := 85, ground := Go.Ground.phase }, { on := 86, ground := Go.Ground.phase }, { on := 87, ground := Go.Ground.phase }, { on := 88, ground := Go.Ground.phase }, { on := 89, ground := Go.Ground.phase }, { on := 90, ground := Go.Ground.phase }, { on := 91, ground := Go.Ground.phase }]).toArray, guard := none }) (v := ?_) rfl (by kernel_rfl) (by kernel_rfl) (by kernel_rfl) (fun _ _ _ h => h) (Or.inl ⟨by rfl, ?_⟩) (by assumption) ?_
  rotate_left 1
  · intro w' hSw; (go_simp <;> (with_reducible rfl))
  (try simp only [Act.put, List.setIfInBounds_toArray, List.set_cons_zero, List.set_cons_succ])
  refine wpAnyH_done (by kernel_rfl) ?_ _
  go_wp2_with fail
  go_ret
  exact ⟨rfl, HH.out.old⟩
theorem walk (w : World) (src : Int) (w0 : (Lit.int .u32 src).wf = true) (dst : Int) (w1 : (Lit.int .u32 dst).wf = true) (v : Value) (hv : SegAt 140737488355328 140737488355328 w v) (v' : Value) (hv' : SegAt 140737488355328 140737488355328 w v') :
    Calls Try.prog 6 #[.int .u32 src, .int .u32 dst, v, v'] w fun e w' => e = .returned (.bool true) ∧ Below w.heap.size w w' := by
  obtain ⟨s, AO, nO, cO, oss, AD, nD, cD, rfl, hs, hnO, hnD⟩ := hv
  obtain ⟨t, AO', nO', cO', oss', AD', nD', cD', rfl, ht, -, -⟩ := hv'
  have ht2 : SegRd w ⟨t.sp, t.dp, t.sq, t.ak, t.fl, t.wn, t.ug, s.os, s.d⟩ AO nO cO oss AD nD cD := ⟨⟨ht.num.sp, ht.num.dp, ht.num.sq, ht.num.ak, ht.num.fl, ht.num.wn, ht.num.ug⟩, hs.oc, hs.dc, hs.o, hs.os, hs.d⟩
  obtain ⟨sp, dp, sq, ak, fl, wn, ug, os, d⟩ := s
  obtain ⟨sp', dp', sq', ak', fl', wn', ug', os', d'⟩ := t
  by_cases h0 : errS ⟨sp, dp, sq, ak, fl, wn, ug, os, d⟩ = 0
  · exact walk_good w src dst sp dp sq ak fl wn ug sp' dp' sq' ak' fl' wn' ug' os d AO nO cO oss AD nD cD AO' nO' cO' AD' nD' cD' hnO hnD hs ht2 h0
  · exact walk_bad w src dst sp dp sq ak fl wn ug sp' dp' sq' ak' fl' wn' ug' os d AO nO cO oss AD nD cD AO' nO' cO' AD' nD' cD' hnO hnD hs ht2 h0
theorem own : ownKnob Try.prog.godebug = none := by kernel_rfl
theorem laidOut : laidOutB Try.prog = true := by kernel_rfl

set_option maxRecDepth 100000 in
theorem lifted (os : Os) (started : os.Started) (H : Type) (enc : TypeId × Value → H) :
    ReturnsInHanded {} Try.checked os 6 .any (Rows.tcpFieldsSpec.pre6 enc Try.prog Try.f6 Rows.tcpFieldsRow.domain false) (Rows.tcpFieldsSpec.post enc Try.prog Try.f6 false true false false) := by
  refine returnsInHanded_of_change_sized (C := Try.checked) own started (by kernel_rfl) Try.func6
    (ChangeSpec.witness6 (enc := enc) (C := Try.checked) false ⟨#[], #[.int .u32 0, .int .u32 0, (.agg #[.int .u16 0, .int .u16 0, .int .u32 0, .int .u32 0, .int .u8 0, .int .u16 0, .int .u16 0, .slice none 0 0, .slice none 0 0]), (.agg #[.int .u16 0, .int .u16 0, .int .u32 0, .int .u32 0, .int .u8 0, .int .u16 0, .int .u16 0, .slice none 0 0, .slice none 0 0])], []⟩ 8 (by kernel_rfl) (by kernel_rfl) (by kernel_rfl) (by kernel_rfl)) ?_
  intro W base args ds gs before hval0 hW hcnd hsz0 _
  have hsz : (DataW.weightsEach Try.prog (Try.f6.params.toList ++ Rows.tcpFieldsSpec.plain.varTypes Try.prog) (ds ++ gs)).all (· ≤ reachBytes) = true := hsz0
  have hval : ∀ (j : Nat) t v, Try.f6.params[j]? = some t → args[j]? = some v → Value.okWide Try.prog W .any base t v := hval0
  have hW' := hW
  obtain ⟨p, q, hA0, hV, rfl, hfz, hnd⟩ := hW
  have hA : DataW.TrodAll enc Try.prog W 0 (fun _ => true) true Try.f6.params.toList args.toList ds p := hA0
  rw [Try.params6] at hA hval hsz
  obtain ⟨v0, vs0, d0, ds0, p0, q0, hargs, rfl, rfl, h0, r0⟩ := trodAll_cons hA
  obtain ⟨v1, vs1, d1, ds1, p1, q1, rfl, rfl, rfl, h1, r1⟩ := trodAll_cons r0
  obtain ⟨v2, vs2, d2, ds2, p2, q2, rfl, rfl, rfl, h2, r2⟩ := trodAll_cons r1
  obtain ⟨v3, vs3, d3, ds3, p3, q3, rfl, rfl, rfl, h3, r3⟩ := trodAll_cons r2
  obtain ⟨rfl, rfl, rfl⟩ := trodAll_nil r3
  obtain rfl : args = #[v0, v1, v2, v3] := by cases args; simp_all
  obtain ⟨rfl, rfl⟩ := trodVars_none hV
  obtain ⟨a0, rfl, rfl, rfl, w0⟩ := open_int Try.underlying22 (hval 0 22 v0 rfl rfl) h0
  obtain ⟨a1, rfl, rfl, rfl, w1⟩ := open_int Try.underlying22 (hval 1 22 v1 rfl rfl) h1
  have k2 := seg_open (hval 2 27 v2 rfl rfl) h2 (fun k hk => by have := List.all_eq_true.1 hsz k (DataW.weights_mem_each (j := 2) (t := 27) rfl rfl k hk); simpa using this)
  have lt2 : ∀ x ∈ p2, x.block < W.heap.size := by obtain ⟨m, hm⟩ := h2; exact DataW.trod_lt m _ _ _ hm
  have k3 := seg_open (hval 3 27 v3 rfl rfl) h3 (fun k hk => by have := List.all_eq_true.1 hsz k (DataW.weights_mem_each (j := 3) (t := 27) rfl rfl k hk); simpa using this)
  have lt3 : ∀ x ∈ p3, x.block < W.heap.size := by obtain ⟨m, hm⟩ := h3; exact DataW.trod_lt m _ _ _ hm
  clear hA0 hval0
  refine (walk W a0 w0 a1 w1 v2 k2 v3 k3).mono fun e W' ⟨he, bel⟩ => ?_
  subst he
  exact ⟨_, rfl, _, _, _, [], _, [], hW', trodAll_mk1 (shut_bool Try.underlying4 _), (trodAll_cons_mk (shut_int Try.underlying22 w0) (trodAll_cons_mk (shut_int Try.underlying22 w1) (trodAll_cons_mk (Below.trod laidOut (by kernel_rfl) (of_decide_eq_true (by kernel_rfl)) h2 bel lt2) (trodAll_cons_mk (Below.trod laidOut (by kernel_rfl) (of_decide_eq_true (by kernel_rfl)) h3 bel lt3) trodAll_mk0)))), rfl, bel.frame _, fun h => by cases h⟩

theorem over : Rows.tcpFieldsRow.holds Try.pinned (OpenSpec.ofChange Rows.tcpFieldsSpec) :=
  OpenClaim.holds_of_wide 6 Try.f6 rfl rfl rfl rfl rfl rfl rfl ⟨rfl, rfl, rfl, rfl, rfl⟩ rfl rfl rfl rfl rfl (by kernel_rfl) Try.func6 (by kernel_rfl)
    (of_decide_eq_true (by kernel_rfl)) (by unfold Func.isWrapper; first | (rw [if_pos (by decide +kernel)]; kernel_rfl) | (rw [if_neg (by decide +kernel)]; exact ⟨rfl, rfl⟩))
    (fun os started H enc _ => lifted os started H enc)

/-- The statement. -/
theorem proved : Rows.TcpFieldsSaid := over
#print axioms proved
end Go.Proofs.Ytpinjbnbpcmfbaa.tcpFields
