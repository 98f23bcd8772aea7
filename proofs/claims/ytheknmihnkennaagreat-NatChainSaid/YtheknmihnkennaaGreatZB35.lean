/-
  Texts laid together: NatFld, NatBox.
-/
import Derived.Test.YtheknmihnkennaaGreatZB03
import Derived.Test.YtheknmihnkennaaGreatZB01
import Derived.Test.YtheknmihnkennaaGreatZB05
import Derived.Deep.QuietTactic
import Derived.BigQuiet
import Derived.Deep.CutRange
import Derived.Test.YtheknmihnkennaaGreatZB06
import Derived.Test.YtheknmihnkennaaGreatZB24
import Derived.Test.YtheknmihnkennaaGreatZB11
import Derived.Deep.RegionHeld3

/-
  The small functions of package nat: word, lay, has, follow.
-/
namespace Go.Proofs.YtheknmihnkennaaGreat
set_option maxRecDepth 10000
open Go.RowKit
set_option linter.unusedSimpArgs false
set_option linter.unusedVariables false

/-- A word of the bytes. -/
theorem nword_any (A : Option Addr) (m c : Nat) (l : List Int) (a x : Int) (K : Nat) (w : World) (hm : m ≤ 140737488355328) (ha : a = 2 * (K : Int)) (hK : 2 * K + 1 < m) (h : Rd w A m l) (hx : wordL l K = x) :
    Calls Tryz.prog 48 #[.slice A m c, .int .i64 a] w (SumIs x w) := by
  subst ha
  obtain ⟨b, o, rfl, hb, hc⟩ := h.at_ (by omega)
  have hc1 := hc (2 * K) (by omega)
  have hc2 := hc (2 * K + 1) (by omega)
  have hx1 := getD_byte h.byte (2 * K)
  have hy := getD_byte h.byte (2 * K + 1)
  obtain ⟨x1, ex⟩ : ∃ x, l.getD (2 * K) 0 = x := ⟨_, rfl⟩
  obtain ⟨y, ey⟩ : ∃ y, l.getD (2 * K + 1) 0 = y := ⟨_, rfl⟩
  have Hw := Lib.hid (show x = x1 * 256 + y by rw [← hx]; unfold wordL; rw [ex, ey])
  rw [ex] at hc1 hx1
  rw [ey] at hc2 hy
  have hor := or16 x1 y hx1 hy
  have hi1 : 2 * (K : Int) + 1 < (m : Int) := by omega
  have hi0 : 2 * (K : Int) < (m : Int) := by omega
  have hk0 : 0 ≤ 2 * (K : Int) := by omega
  obtain ⟨hx0, hx1'⟩ := id hx1
  obtain ⟨hy0, hy1⟩ := id hy
  have hmi : (m : Int) ≤ 140737488355328 := by omega
  have hbnd : 2 * (K : Int) + 1 ≤ 140737488355328 := by omega
  have hw2 : IntKind.i64.wrap (2 * (K : Int) + 1) = 2 * (K : Int) + 1 := IntWalk.i64_in _ (by omega)
  have hc2 : w.cell? ⟨b, o + (2 * (K : Int) + 1).toNat, none⟩ = some (.int .u8 y) := by rw [show (2 * (K : Int) + 1).toNat = 2 * K + 1 by omega]; exact hc2
  have hc1 : w.cell? ⟨b, o + (2 * (K : Int)).toNat, none⟩ = some (.int .u8 x1) := by rw [show (2 * (K : Int)).toNat = 2 * K by omega]; exact hc1
  clear h hc ex ey hx1 hy hx hK hm
  go_enter Tryz.func48, Tryz.ntmps48
  go_wp2_with fail
  go_quiet (fail)
  go_wp2_with fail
  go_ret
  exact ⟨ret_int Hw.out.symm, rfl, rfl, rfl, Nat.le_refl _, fun _ _ => rfl⟩

/-- A word of a row of the call's own becomes another one. -/
def NLayIs (B g n c : Nat) (l : List Int) (w : World) (e : Ending) (w' : World) : Prop := e = .returned (.tuple #[]) ∧ OwnB w' B (some ⟨g, 0, none⟩) n c l ∧ But (fun k => k = g) w w'
theorem nlay_any (B g m c : Nat) (l : List Int) (a x : Int) (K : Nat) (w : World) (hm : m ≤ 140737488355328) (ha : a = 2 * (K : Int)) (hK : 2 * K + 1 < m) (hx : U16 x) (h : OwnB w B (some ⟨g, 0, none⟩) m c l) (L : List Int) (hL : layL l K x = L) :
    Calls Tryz.prog 49 #[.slice (some ⟨g, 0, none⟩) m c, .int .i64 a, .int .u16 x] w (NLayIs B g m c L w) := by
  subst ha
  have hcap := h.cap
  have hc1 := h.cell (2 * K) (by omega)
  have hc2 := h.cell (2 * K + 1) (by omega)
  have hf1 : w.frozen? ⟨g, 2 * K, none⟩ = false := World.ownsRow.frozenAt h _
  have hf2 : w.frozen? ⟨g, 2 * K + 1, none⟩ = false := World.ownsRow.frozenAt h _
  have hi1 : 2 * (K : Int) + 1 < (m : Int) := by omega
  have hi2 : 2 * K + 1 < m := by omega
  obtain ⟨hx0, hx1⟩ := id hx
  have Hw := Lib.hid (show OwnB ((w.setCell ⟨g, 2 * K, none⟩ (.int .u8 (x / 256))).setCell ⟨g, 2 * K + 1, none⟩ (.int .u8 (x % 256))) B (some ⟨g, 0, none⟩) m c L by rw [← hL]; exact (h.set_ (2 * K) (x / 256)).set_ (2 * K + 1) (x % 256))
  have hmi : (m : Int) ≤ 140737488355328 := by omega
  have hbnd : 2 * (K : Int) + 1 ≤ 140737488355328 := by omega
  have hw2 : IntKind.i64.wrap (2 * (K : Int) + 1) = 2 * (K : Int) + 1 := IntWalk.i64_in _ (by omega)
  clear h hcap hx hL
  go_enter Tryz.func49, Tryz.ntmps49
  go_wp2_with fail
  go_end0
  exact ⟨rfl, Hw.out, ((But.refl (fun k => k = g) _).setCell (p := ⟨g, 2 * K, none⟩) rfl _).setCell (p := ⟨g, 2 * K + 1, none⟩) rfl _⟩

/-- A slice of spans, read. -/
structure SpRd (w : World) (s m : Nat) (L : List (Int × Int)) : Prop where
  len : L.length = m
  lt : s < w.heap.size
  at_ : ∀ i, i < m → w.cell? ⟨s, i * 2, none⟩ = some (.int .i64 (L.getD i (0, 0)).1) ∧ w.cell? ⟨s, i * 2 + 1, none⟩ = some (.int .i64 (L.getD i (0, 0)).2)
theorem SpRd.but {S : Nat → Prop} {w w' : World} {s m : Nat} {L : List (Int × Int)} (h : SpRd w s m L) (hb : But S w w') (hS : ¬ S s) : SpRd w' s m L :=
  ⟨h.len, hb.lt h.lt, fun i hi => by rw [hb.cell (p := ⟨s, i * 2, none⟩) h.lt hS, hb.cell (p := ⟨s, i * 2 + 1, none⟩) h.lt hS]; exact h.at_ i hi⟩
theorem SpRd.below {w w' : World} {s m : Nat} {L : List (Int × Int)} (h : SpRd w s m L) (hb : Below w.heap.size w w') : SpRd w' s m L := h.but (S := fun _ => False) (But.of hb) (fun h => h)
theorem SpRd.one {w : World} {s : Nat} {a b : Int} {T : TypeId} (h : w.heap[s]? = some (.cells #[.int .i64 a, .int .i64 b] T (0, 0))) : SpRd w s 1 [(a, b)] :=
  ⟨rfl, lt_of_block h, fun i hi => by
    obtain rfl : i = 0 := by omega
    exact ⟨by rw [blk_cell h]; rfl, by rw [blk_cell h]; rfl⟩⟩
theorem SpRd.two {w : World} {s : Nat} {a b c d : Int} {T : TypeId} (h : w.heap[s]? = some (.cells #[.int .i64 a, .int .i64 b, .int .i64 c, .int .i64 d] T (0, 0))) : SpRd w s 2 [(a, b), (c, d)] :=
  ⟨rfl, lt_of_block h, fun i hi => by
    rcases (show i = 0 ∨ i = 1 by omega) with rfl | rfl
    · exact ⟨by rw [blk_cell h]; rfl, by rw [blk_cell h]; rfl⟩
    · exact ⟨by rw [blk_cell h]; rfl, by rw [blk_cell h]; rfl⟩⟩
theorem SpRd.index {w : World} {s m c : Nat} {L : List (Int × Int)} (h : SpRd w s m L) {j : Nat} (hj : j < m) :
    ∃ p, (∀ W : World, (Instr.indexAt 104 (.slice (some ⟨s, 0, none⟩) m c) (.int .i64 (j : Int))).run Tryz.prog W = .ok (.pointer (some ⟨s, p, none⟩)) W) ∧ w.cell? ⟨s, p, none⟩ = some (.int .i64 (L.getD j (0, 0)).1) ∧ w.cell? ⟨s, p + 1, none⟩ = some (.int .i64 (L.getD j (0, 0)).2) := by
  have k0 : (0 : Int) ≤ (j : Int) := by omega
  have k1 : (j : Int) < (m : Int) := by omega
  exact ⟨0 + j * 2, fun W => by go_simp, by rw [Nat.zero_add]; exact (h.at_ j hj).1, by rw [Nat.zero_add]; exact (h.at_ j hj).2⟩
def inSp (a : Int) (s : Int × Int) : Bool := decide (s.1 ≤ a) && decide (a < s.2)
def hasSp (L : List (Int × Int)) (a : Int) : Bool := L.any (inSp a)
set_option maxHeartbeats 1000000 in
theorem has_any (at_ : Int) (s m : Nat) (o z : Bool) (L : List (Int × Int)) (a : Int) (x : Bool) (w : World) (h : SpRd w s m L) (hm : m ≤ 1000) (hx : hasSp L a = x) :
    Calls Tryz.prog 50 #[.agg #[.int .i64 at_, .slice (some ⟨s, 0, none⟩) m m, .bool o, .bool z], .int .i64 a] w (BoolIs x w) := by
  obtain ⟨w0, ew⟩ : ∃ w0, w.alloc (.cells #[.int .i64 at_, .slice (some ⟨s, 0, none⟩) m m, .bool o, .bool z] 106) = w0 := ⟨_, rfl⟩
  obtain ⟨z0, hz⟩ : ∃ z, w.heap.size = z := ⟨_, rfl⟩
  have hb0 : Below w.heap.size w w0 := by rw [← ew]; exact (Below.refl _ _).alloc (Nat.le_refl _) _
  have hk0 : w0.heap[z0]? = some (.cells #[.int .i64 at_, .slice (some ⟨s, 0, none⟩) m m, .bool o, .bool z] 106 (0, 0)) := by rw [← ew, ← hz]; exact heap_alloc_new w _
  have HS := Lib.hid (h.below hb0)
  have Hlen := Lib.hid h.len
  have g1 : w0.cell? ⟨z0, 1, none⟩ = some (.slice (some ⟨s, 0, none⟩) m m) := blk_cell hk0 1
  have Ew := Lib.hid ew
  have Hz := Lib.hid hz
  have Hx := Lib.hid hx
  have Hb0 := Lib.hid hb0
  have hmi : (m : Int) ≤ 1000 := by omega
  clear h hb0 hk0 hx ew hz
  go_enter Tryz.func50, Tryz.ntmps50
  go_upto_region 1 with (fail)
  rw [Ew.out]
  try rw [Hz.out]
  go_wp2_with fail
  clear g1 Ew Hz
  go_loopg [10] m (fun gk i wr => ∃ j : Nat, Hid (gk + j = m) ∧ j ≤ m ∧ i = .int .i64 (j : Int) ∧ Hid (∀ t, t < j → inSp a (L.getD t (0, 0)) = false) ∧ Hid (Below w0.heap.size w0 wr))
  case atStart => exact ⟨0, rfl, Nat.zero_le _, rfl, Lib.hid (fun t ht => by omega), Lib.hid (Below.refl _ _)⟩
  case round =>
    obtain ⟨j, hgk, hj, rfl, hno, hB⟩ := hrel
    by_cases hjn : j < m
    · obtain ⟨p, hidx, c0, c1⟩ := (HS.out.below hB.out).index (c := m) hjn
      obtain ⟨⟨f, t⟩, ef⟩ : ∃ f, L.getD j (0, 0) = f := ⟨_, rfl⟩
      rw [ef] at c0 c1
      simp only at c0 c1
      obtain ⟨z2, ez2⟩ : ∃ y, wr.heap.size = y := ⟨_, rfl⟩
      obtain ⟨w2, ew2⟩ : ∃ w1, wr.alloc (.cells #[.int .i64 f, .int .i64 t] 139) = w1 := ⟨_, rfl⟩
      have hBa : Below wr.heap.size wr w2 := by rw [← ew2]; exact (Below.refl _ _).alloc (Nat.le_refl _) _
      have hkf : w2.heap[z2]? = some (.cells #[.int .i64 f, .int .i64 t] 139 (0, 0)) := by rw [← ew2, ← ez2]; exact heap_alloc_new wr _
      have HB1 := Lib.hid (below_trans hB.out hBa)
      have i0 : (0 : Int) ≤ (j : Int) := by omega
      have i1 : (j : Int) < (m : Int) := by omega
      have d0 : w2.cell? ⟨z2, 0, none⟩ = some (.int .i64 f) := blk_cell hkf 0
      have d1 : w2.cell? ⟨z2, 1, none⟩ = some (.int .i64 t) := blk_cell hkf 1
      have Hjn := Lib.hid hjn
      have Hef := Lib.hid ef
      have Ew2 := Lib.hid ew2
      have Ez2 := Lib.hid ez2
      have HB2 := Lib.hid (below_trans Hb0.out HB1.out)
      clear ef hBa hkf ew2 ez2
      go_upto_region 4 with (fail)
      rw [Ew2.out]
      try rw [Ez2.out]
      clear c0 c1 hidx
      obtain ⟨y, ey⟩ : ∃ y, inSp a (f, t) = y := ⟨_, rfl⟩
      have Ey := Lib.hid ey
      unfold inSp at ey
      simp only at ey
      by_cases h1 : f ≤ a
      · by_cases h2 : a < t
        · have Hall := Lib.hid (show hasSp L a = true from List.any_eq_true.2 ⟨(f, t), by
            rw [← Hef.out]
            simp only [List.getD]
            rw [List.getElem?_eq_getElem (by have := Hlen.out; have := Hjn.out; omega)]
            exact List.getElem_mem _, by unfold inSp; simp [h1, h2]⟩)
          clear ey
          go_wp2_with fail
          go_ret
          exact ⟨ret_bool (by rw [← Hx.out, Hall.out]), HB2.out⟩
        · have Hno2 := Lib.hid (show ∀ k, k < j + 1 → inSp a (L.getD k (0, 0)) = false by
            intro k hk
            by_cases e : k = j
            · subst e; rw [Hef.out]; unfold inSp; simp; intro _; omega
            · exact hno.out k (by omega))
          clear ey
          go_wp2_with fail
          go_roundg (gk - 1)
          case measure => have := hgk.out; have := Hjn.out; omega
          case rel => exact ⟨j + 1, by have := hgk.out; have := Hjn.out; show gk - 1 + (j + 1) = _; omega, by have := Hjn.out; omega, by go_num, Hno2, HB1⟩
      · have Hno2 := Lib.hid (show ∀ k, k < j + 1 → inSp a (L.getD k (0, 0)) = false by
          intro k hk
          by_cases e : k = j
          · subst e; rw [Hef.out]; unfold inSp; simp; intro _; omega
          · exact hno.out k (by omega))
        clear ey
        go_wp2_with fail
        go_roundg (gk - 1)
        case measure => have := hgk.out; have := Hjn.out; omega
        case rel => exact ⟨j + 1, by have := hgk.out; have := Hjn.out; show gk - 1 + (j + 1) = _; omega, by have := Hjn.out; omega, by go_num, Hno2, HB1⟩
    · obtain rfl : m = j := by omega
      have HB2 := Lib.hid (below_trans Hb0.out hB.out)
      go_wp2_with fail
      go_ret
      refine ⟨ret_bool ?_, HB2.out⟩
      rw [← Hx.out]
      unfold hasSp
      symm
      rw [List.any_eq_false]
      intro q hq
      obtain ⟨t, ht⟩ := List.getElem?_of_mem hq
      obtain ⟨htl, e⟩ := List.getElem?_eq_some_iff.1 ht
      have := hno.out t (by have := Hlen.out; omega)
      rw [show L.getD t (0, 0) = q by simp [List.getD, ht]] at this
      simp [this]
/-- What becomes of a field. -/
def folF (o z : Bool) (now was is_ : Int) : Int := if o = true ∧ now = 0 then 0 else if z = true ∧ wordF now was is_ = 0 then 65535 else wordF now was is_
theorem folF_bd (o z : Bool) {now was is_ : Int} (hn : U16 now) (hw : U16 was) (hi : U16 is_) : U16 (folF o z now was is_) := by
  unfold folF
  split
  · exact ⟨by omega, by omega⟩
  · split
    · exact ⟨by omega, by omega⟩
    · exact wordF_bd _ _ _ hn hw hi
set_option maxHeartbeats 1000000 in
theorem follow_any (at_ : Int) (s m : Nat) (o z : Bool) (now was is_ x : Int) (w : World) (hn : U16 now ∧ U16 was ∧ U16 is_) (hx : folF o z now was is_ = x) :
    Calls Tryz.prog 51 #[.agg #[.int .i64 at_, .slice (some ⟨s, 0, none⟩) m m, .bool o, .bool z], .int .u16 now, .int .u16 was, .int .u16 is_] w (SumIs x w) := by
  obtain ⟨w0, ew⟩ : ∃ w0, w.alloc (.cells #[.int .i64 at_, .slice (some ⟨s, 0, none⟩) m m, .bool o, .bool z] 106) = w0 := ⟨_, rfl⟩
  obtain ⟨z0, hz⟩ : ∃ z, w.heap.size = z := ⟨_, rfl⟩
  have hb0 : Below w.heap.size w w0 := by rw [← ew]; exact (Below.refl _ _).alloc (Nat.le_refl _) _
  have hk0 : w0.heap[z0]? = some (.cells #[.int .i64 at_, .slice (some ⟨s, 0, none⟩) m m, .bool o, .bool z] 106 (0, 0)) := by rw [← ew, ← hz]; exact heap_alloc_new w _
  have g2 : w0.cell? ⟨z0, 2, none⟩ = some (.bool o) := blk_cell hk0 2
  have g3 : w0.cell? ⟨z0, 3, none⟩ = some (.bool z) := blk_cell hk0 3
  obtain ⟨y, ey⟩ : ∃ y, wordF now was is_ = y := ⟨_, rfl⟩
  have hyb : U16 y := by rw [← ey]; exact wordF_bd _ _ _ hn.1 hn.2.1 hn.2.2
  have hnot := not16 y hyb
  have Hnot := Lib.hid hnot
  have Hy := Lib.hid ey
  have Hn := Lib.hid hn
  have Ew := Lib.hid ew
  have Hz := Lib.hid hz
  unfold folF at hx
  rw [ey] at hx
  have Hx := Lib.hid hx
  have Hb0 := Lib.hid hb0
  clear hb0 hk0 hx ew hz ey hnot hyb
  go_enter Tryz.func51, Tryz.ntmps51
  go_upto_region 1 with (fail)
  rw [Ew.out]
  try rw [Hz.out]
  clear Ew Hz
  cases o with
  | true =>
    by_cases h0 : now = 0
    · have p1 : (now == 0) = true := by simpa using h0
      have hx := Hx.out
      rw [if_pos ⟨rfl, h0⟩] at hx
      have Hx0 := Lib.hid hx
      clear h0 hx Hx hn
      go_wp2_with fail
      go_ret
      exact ⟨ret_int Hx0.out, Hb0.out⟩
    · have p1 : (now == 0) = false := by simpa using h0
      have hx := Hx.out
      rw [if_neg (fun h => h0 h.2)] at hx
      clear h0 Hx
      have Hx := Lib.hid hx
      clear hx
      go_wp2_with fail
      clear hn
      refine (word_told now was is_ y w0 Hn.out.1 Hn.out.2.1 Hn.out.2.2 Hy.out).mono ?_
      rintro e w1 ⟨rfl, rfl⟩
      clear p1
      cases z with
      | true =>
        by_cases hy : y = 0
        · have p2 : (y == 0) = true := by simpa using hy
          have hx := Hx.out
          rw [if_pos ⟨rfl, hy⟩] at hx
          have Hx0 := Lib.hid hx
          have Hy0 := Lib.hid hy
          have hnot := Hnot.out
          clear hx Hx hy
          go_wp2_with fail
          go_ret
          exact ⟨ret_int (by rw [← Hx0.out, Hy0.out]; rfl), Hb0.out⟩
        · have p2 : (y == 0) = false := by simpa using hy
          have hx := Hx.out
          rw [if_neg (fun h => hy h.2)] at hx
          have Hx0 := Lib.hid hx
          clear hx Hx hy
          go_wp2_with fail
          go_ret
          exact ⟨ret_int Hx0.out, Hb0.out⟩
      | false =>
        have hx := Hx.out
        rw [if_neg (fun h => Bool.noConfusion h.1)] at hx
        have Hx0 := Lib.hid hx
        clear hx Hx
        go_wp2_with fail
        go_ret
        exact ⟨ret_int Hx0.out, Hb0.out⟩
  | false =>
    have hx := Hx.out
    rw [if_neg (fun h => Bool.noConfusion h.1)] at hx
    clear Hx
    have Hx := Lib.hid hx
    clear hx
    go_wp2_with fail
    clear hn
    refine (word_told now was is_ y w0 Hn.out.1 Hn.out.2.1 Hn.out.2.2 Hy.out).mono ?_
    rintro e w1 ⟨rfl, rfl⟩
    cases z with
    | true =>
      by_cases hy : y = 0
      · have p2 : (y == 0) = true := by simpa using hy
        have hx := Hx.out
        rw [if_pos ⟨rfl, hy⟩] at hx
        have Hx0 := Lib.hid hx
        have Hy0 := Lib.hid hy
        have hnot := Hnot.out
        clear hx Hx hy
        go_wp2_with fail
        go_ret
        exact ⟨ret_int (by rw [← Hx0.out, Hy0.out]; rfl), Hb0.out⟩
      · have p2 : (y == 0) = false := by simpa using hy
        have hx := Hx.out
        rw [if_neg (fun h => hy h.2)] at hx
        have Hx0 := Lib.hid hx
        clear hx Hx hy
        go_wp2_with fail
        go_ret
        exact ⟨ret_int Hx0.out, Hb0.out⟩
    | false =>
      have hx := Hx.out
      rw [if_neg (fun h => Bool.noConfusion h.1)] at hx
      have Hx0 := Lib.hid hx
      clear hx Hx
      go_wp2_with fail
      go_ret
      exact ⟨ret_int Hx0.out, Hb0.out⟩
end Go.Proofs.YtheknmihnkennaaGreat

/-
  Package nat's fields of a packet and the closure that changes a word.
-/
namespace Go.Proofs.YtheknmihnkennaaGreat
set_option maxRecDepth 10000
open Go.RowKit
set_option linter.unusedSimpArgs false
set_option linter.unusedVariables false

theorem header_any (h : Hd) (A : Option Addr) (n c : Nat) (w : World) (hn : n ≤ 1000) :
    Calls Tryz.prog 27 #[.agg #[.int .u8 h.to, .int .u16 h.id, .bool h.df, .int .u8 h.tt, .int .u8 h.pr, .int .u32 h.sr, .int .u32 h.ds, .slice A n c]] w fun e w' => e = .returned (.int .i64 (20 + (n : Int))) ∧ Below w.heap.size w w' := by
  have hmi : (n : Int) ≤ 1000 := by omega
  have hw : IntKind.i64.wrap (20 + (n : Int)) = 20 + (n : Int) := IntWalk.i64_in _ (by omega)
  have hb := (Below.refl w.heap.size w).alloc (Nat.le_refl _) (.cells #[.int .u8 h.to, .int .u16 h.id, .bool h.df, .int .u8 h.tt, .int .u8 h.pr, .int .u32 h.sr, .int .u32 h.ds, .slice A n c] 26)
  go_enter Tryz.func27, Tryz.ntmps27
  go_wp2_with fail
  go_ret
  exact ⟨rfl, hb⟩
/-- One of a packet's fields. -/
structure Fd where
  a : Int
  s : Nat
  m : Nat
  o : Bool
  z : Bool
  L : List (Int × Int)

theorem set8n_blk {w : World} {q : Nat} {u0 u1 u2 u3 u4 u5 u6 u7 : Value} {t : TypeId} (h : w.heap[q]? = some (.cells #[u0, u1, u2, u3, u4, u5, u6, u7] t (0, 0))) (v0 v1 v2 v3 v4 v5 v6 v7 : Value) :
    ((((((((w.setCell ⟨q, 0, none⟩ v0).setCell ⟨q, 1, none⟩ v1).setCell ⟨q, 2, none⟩ v2).setCell ⟨q, 3, none⟩ v3).setCell ⟨q, 4, none⟩ v4).setCell ⟨q, 5, none⟩ v5).setCell ⟨q, 6, none⟩ v6).setCell ⟨q, 7, none⟩ v7).heap[q]? = some (.cells #[v0, v1, v2, v3, v4, v5, v6, v7] t (0, 0)) := by
  have h0 := setCell_block (i := 0) h v0
  have h1 := setCell_block (i := 1) h0 v1
  have h2 := setCell_block (i := 2) h1 v2
  have h3 := setCell_block (i := 3) h2 v3
  have h4 := setCell_block (i := 4) h3 v4
  have h5 := setCell_block (i := 5) h4 v5
  have h6 := setCell_block (i := 6) h5 v6
  have h7 := setCell_block (i := 7) h6 v7
  simpa using h7
theorem set8n_but (w : World) (q : Nat) (v0 v1 v2 v3 v4 v5 v6 v7 : Value) : But (fun k => k = q) w ((((((((w.setCell ⟨q, 0, none⟩ v0).setCell ⟨q, 1, none⟩ v1).setCell ⟨q, 2, none⟩ v2).setCell ⟨q, 3, none⟩ v3).setCell ⟨q, 4, none⟩ v4).setCell ⟨q, 5, none⟩ v5).setCell ⟨q, 6, none⟩ v6).setCell ⟨q, 7, none⟩ v7) :=
  (((((((((But.refl (fun k => k = q) w).setCell (p := ⟨q, 0, none⟩) rfl v0).setCell (p := ⟨q, 1, none⟩) rfl v1).setCell (p := ⟨q, 2, none⟩) rfl v2).setCell (p := ⟨q, 3, none⟩) rfl v3).setCell (p := ⟨q, 4, none⟩) rfl v4).setCell (p := ⟨q, 5, none⟩) rfl v5).setCell (p := ⟨q, 6, none⟩) rfl v6).setCell (p := ⟨q, 7, none⟩) rfl v7)
theorem half8_blk {w : World} {q : Nat} {u0 u1 u2 u3 u4 u5 u6 u7 : Value} {t : TypeId} (h : w.heap[q]? = some (.cells #[u0, u1, u2, u3, u4, u5, u6, u7] t (0, 0))) (v4 v5 v6 v7 : Value) :
    ((((w.setCell ⟨q, 4, none⟩ v4).setCell ⟨q, 5, none⟩ v5).setCell ⟨q, 6, none⟩ v6).setCell ⟨q, 7, none⟩ v7).heap[q]? = some (.cells #[u0, u1, u2, u3, v4, v5, v6, v7] t (0, 0)) := by
  have h4 := setCell_block (i := 4) h v4
  have h5 := setCell_block (i := 5) h4 v5
  have h6 := setCell_block (i := 6) h5 v6
  have h7 := setCell_block (i := 7) h6 v7
  simpa using h7
theorem half8_but (w : World) (q : Nat) (v4 v5 v6 v7 : Value) : But (fun k => k = q) w ((((w.setCell ⟨q, 4, none⟩ v4).setCell ⟨q, 5, none⟩ v5).setCell ⟨q, 6, none⟩ v6).setCell ⟨q, 7, none⟩ v7) :=
  (((((But.refl (fun k => k = q) w).setCell (p := ⟨q, 4, none⟩) rfl v4).setCell (p := ⟨q, 5, none⟩) rfl v5).setCell (p := ⟨q, 6, none⟩) rfl v6).setCell (p := ⟨q, 7, none⟩) rfl v7)
theorem cells8n {w : World} {g : Nat} {v0 v1 v2 v3 v4 v5 v6 v7 : Value} {t : TypeId} (h : w.heap[g]? = some (.cells #[v0, v1, v2, v3, v4, v5, v6, v7] t (0, 0))) :
    w.cell? ⟨g, 0, none⟩ = some v0 ∧ w.cell? ⟨g, 1, none⟩ = some v1 ∧ w.cell? ⟨g, 2, none⟩ = some v2 ∧ w.cell? ⟨g, 3, none⟩ = some v3 ∧ w.cell? ⟨g, 4, none⟩ = some v4 ∧ w.cell? ⟨g, 5, none⟩ = some v5 ∧ w.cell? ⟨g, 6, none⟩ = some v6 ∧ w.cell? ⟨g, 7, none⟩ = some v7 := by
  refine ⟨?_, ?_, ?_, ?_, ?_, ?_, ?_, ?_⟩ <;> (rw [blk_cell h]; rfl)
theorem results_row1 {P : Program} {fn : Func} {p : Tmp} {ty : TypeId} (h : fn.results = #[.cell p ty]) (tmps : Array Value) (w : World) (g : Nat) (t : TypeId) (cs : Array Value) (fr : Nat × Nat) (d : TypeDesc)
    (hp : tmps.getD p undef = .pointer (some ⟨g, 0, none⟩)) (hg : w.heap[g]? = some (.cells cs t fr))
    (hu : P.underlying ty = some d) (hd : (match d with | .struct _ | .array _ _ => true | _ => false) = true) (hi : (P.info? ty).map (·.size) = some cs.size) :
    (results fn tmps).run P w = .ok (.agg cs) w := by
  have hp' : tmps[p]?.getD undef = .pointer (some ⟨g, 0, none⟩) := by simpa using hp
  simp [results, h, hp', asAddr, run_loadVar_row w g t ty cs fr d hg hu hd hi]
theorem alloc4 (w : World) (a b c d : Obj) (y : Nat) (hy : w.heap.size = y) : ((((w.alloc a).alloc b).alloc c).alloc d).heap[y]? = some a ∧ ((((w.alloc a).alloc b).alloc c).alloc d).heap[y + 1]? = some b ∧ ((((w.alloc a).alloc b).alloc c).alloc d).heap[y + 1 + 1]? = some c ∧ ((((w.alloc a).alloc b).alloc c).alloc d).heap[y + 1 + 1 + 1]? = some d ∧ ((((w.alloc a).alloc b).alloc c).alloc d).heap.size = y + 1 + 1 + 1 + 1 := by
  subst hy
  refine ⟨?_, ?_, ?_, ?_, by simp⟩
  · rw [Below.heap_alloc _ _ _ (by simp <;> omega), Below.heap_alloc _ _ _ (by simp <;> omega), Below.heap_alloc _ _ _ (by simp)]; exact heap_alloc_new w a
  · rw [Below.heap_alloc _ _ _ (by simp; try omega), Below.heap_alloc _ _ _ (by simp)]; simpa using heap_alloc_new (w.alloc a) b
  · rw [Below.heap_alloc _ _ _ (by simp)]; simpa using heap_alloc_new ((w.alloc a).alloc b) c
  · simpa using heap_alloc_new (((w.alloc a).alloc b).alloc c) d
/-- A packet's two fields: the header's, and its payload's. -/
def FieldsAre (H2 N : Int) (a1 : Int) (o1 z1 : Bool) (m1 : Nat) (L1 : List (Int × Int)) (w : World) (e : Ending) (w' : World) : Prop := ∃ s0 s1, e = .returned (.agg #[.int .i64 10, .slice (some ⟨s0, 0, none⟩) 1 1, .bool false, .bool false, .int .i64 a1, .slice (some ⟨s1, 0, none⟩) m1 m1, .bool o1, .bool z1]) ∧
  SpRd w' s0 1 [(0, H2)] ∧ SpRd w' s1 m1 L1 ∧ w.heap.size ≤ s0 ∧ w.heap.size ≤ s1 ∧ Below w.heap.size w w'
set_option maxHeartbeats 1000000 in
theorem fieldsof_6 (h : Hd) (A : Option Addr) (n c N : Nat) (w : World) (hn : n ≤ 1000) (hN : N ≤ 100000) (hpr : h.pr = 6) :
    Calls Tryz.prog 46 #[.agg #[.int .u8 h.to, .int .u16 h.id, .bool h.df, .int .u8 h.tt, .int .u8 h.pr, .int .u32 h.sr, .int .u32 h.ds, .slice A n c], .int .i64 (N : Int)] w (FieldsAre (20 + (n : Int)) N (20 + (n : Int) + 16) false false 2 [(20 + (n : Int), N), (12, 20)] w) := by
  obtain ⟨z0, hz⟩ : ∃ z, w.heap.size = z := ⟨_, rfl⟩
  obtain ⟨w0, ew⟩ : ∃ w0, (w.alloc (.cells #[.int .u8 h.to, .int .u16 h.id, .bool h.df, .int .u8 h.tt, .int .u8 h.pr, .int .u32 h.sr, .int .u32 h.ds, .slice A n c] 26)).alloc (.cells #[.int .i64 0, .slice none 0 0, .bool false, .bool false, .int .i64 0, .slice none 0 0, .bool false, .bool false] 107) = w0 := ⟨_, rfl⟩
  have hb0 : Below w.heap.size w w0 := by rw [← ew]; exact ((Below.refl _ _).alloc (Nat.le_refl _) _).alloc (by simp) _
  have hk0 : w0.heap[z0]? = some (.cells #[.int .u8 h.to, .int .u16 h.id, .bool h.df, .int .u8 h.tt, .int .u8 h.pr, .int .u32 h.sr, .int .u32 h.ds, .slice A n c] 26 (0, 0)) := by rw [← ew, Below.heap_alloc _ _ _ (by simp [hz]), ← hz]; exact heap_alloc_new w _
  have hk1 : w0.heap[z0 + 1]? = some (.cells #[.int .i64 0, .slice none 0 0, .bool false, .bool false, .int .i64 0, .slice none 0 0, .bool false, .bool false] 107 (0, 0)) := by
    rw [← ew, ← hz]; simpa using heap_alloc_new (w.alloc (.cells #[.int .u8 h.to, .int .u16 h.id, .bool h.df, .int .u8 h.tt, .int .u8 h.pr, .int .u32 h.sr, .int .u32 h.ds, .slice A n c] 26)) _
  have HK0 := Lib.hid hk0
  have HK1 := Lib.hid hk1
  have Hb0 := Lib.hid hb0
  have Ew := Lib.hid ew
  have Hz := Lib.hid hz
  have Hpr := Lib.hid hpr
  have hni : (n : Int) ≤ 1000 := by omega
  have hni0 : (0 : Int) ≤ (n : Int) := by omega
  have hwr : IntKind.i64.wrap (20 + (n : Int) + 16) = 20 + (n : Int) + 16 := IntWalk.i64_in _ (by omega)
  obtain ⟨k0, k1, k2, k3, k4, k5, k6, k7⟩ := cells8n hk0
  clear hz ew hb0 hk0 hk1 hpr
  go_enter Tryz.func46, Tryz.ntmps46
  go_upto_region 1 with (fail)
  rw [Ew.out]
  try rw [Hz.out]
  go_wp2_with fail
  refine (header_any h A n c _ hn).mono ?_
  rintro e w1 ⟨rfl, hb1⟩
  have HB1 := Lib.hid (below_trans Hb0.out hb1)
  have HK0 := Lib.hid (blk_on HK0.out hb1)
  have HK1 := Lib.hid (blk_on HK1.out hb1)
  clear hb1 k0 k1 k2 k3 k4 k5 k6 k7 Ew
  obtain ⟨y, ey⟩ : ∃ y, w1.heap.size = y := ⟨_, rfl⟩
  have Ey := Lib.hid ey
  go_upto_region 4 with (fail)
  try rw [ey]
  clear ey
  obtain ⟨w2, e2⟩ : ∃ v, (((w1.alloc (.cells #[.int .i64 (20 + (n : Int)), .int .i64 (N : Int)] 139)).alloc (.cells #[.int .i64 12, .int .i64 20] 139)).alloc (.cells #[.int .i64 0, .int .i64 (20 + (n : Int))] 139)).alloc
    (.cells #[.int .i64 10, .slice (some ⟨y + 1 + 1, 0, none⟩) 1 1, .bool false, .bool false, .int .i64 0, .slice none 0 0, .bool false, .bool false] 107) = v := ⟨_, rfl⟩
  have HB2 := Lib.hid (show Below w1.heap.size w1 w2 by rw [← e2]; exact ((((Below.refl _ _).alloc (Nat.le_refl _) _).alloc (by simp) _).alloc (by simp; omega) _).alloc (by simp; omega) _)
  obtain ⟨hy0, hy1, hy2, hy3, hs2⟩ := alloc4 w1 _ _ _ _ y Ey.out
  rw [e2] at hy0 hy1 hy2 hy3 hs2
  have Hs2 := Lib.hid hs2
  rw [e2]
  clear e2
  have HZ := Lib.hid (show w.heap.size ≤ y ∧ z0 + 1 < y ∧ z0 < y by have := HB1.out.size; have := Ey.out; have := lt_of_block HK1.out; exact ⟨by omega, by omega, by omega⟩)
  have HK0 := Lib.hid (blk_on HK0.out HB2.out)
  have HK1 := Lib.hid (blk_on HK1.out HB2.out)
  have HB2 := Lib.hid (below_trans HB1.out HB2.out)
  have k4 : w2.cell? ⟨z0, 4, none⟩ = some (.int .u8 6) := by rw [blk_cell HK0.out, ← Hpr.out]; rfl
  have p0 : w2.cell? ⟨y, 0, none⟩ = some (.int .i64 (20 + (n : Int))) := blk_cell hy0 0
  have p1 : w2.cell? ⟨y, 1, none⟩ = some (.int .i64 (N : Int)) := blk_cell hy0 1
  have q0 : w2.cell? ⟨y + 1, 0, none⟩ = some (.int .i64 12) := blk_cell hy1 0
  have q1 : w2.cell? ⟨y + 1, 1, none⟩ = some (.int .i64 20) := blk_cell hy1 1
  have HY2 := Lib.hid hy2
  have HY3 := Lib.hid hy3
  clear hy0 hy1 hy2 hy3 hs2
  go_upto_region 6 with (fail)
  clear k4
  have hac : ∀ (W : World) (o : Obj) (i : Nat), W.heap.size = y + 1 + 1 + 1 + 1 → (W.alloc o).cell? ⟨y + 1 + 1 + 1, i, none⟩ = W.cell? ⟨y + 1 + 1 + 1, i, none⟩ := fun W o i hs => World.cell?_of_block (w := W) (Below.heap_alloc _ _ _ (by simp only; omega))
  have haf : ∀ (W : World) (o : Obj) (i : Nat), W.heap.size = y + 1 + 1 + 1 + 1 → (W.alloc o).frozen? ⟨y + 1 + 1 + 1, i, none⟩ = W.frozen? ⟨y + 1 + 1 + 1, i, none⟩ := fun W o i hs => World.frozen?_of_block (w := W) (Below.heap_alloc _ _ _ (by simp only; omega))
  obtain ⟨t0, t1, t2, t3, t4, t5, t6, t7⟩ := cells8n HY3.out
  have fz := fun i => blk_free HY3.out i
  have hs2 := Hs2.out
  go_upto_region 11 with (fail)
  clear t0 t1 t2 t3 t4 t5 t6 t7 fz hs2 hac haf
  obtain ⟨w3, e3⟩ : ∃ v, (((w2.setCell ⟨y + 1 + 1 + 1, 4, none⟩ (.int .i64 (20 + (n : Int) + 16))).setCell ⟨y + 1 + 1 + 1, 5, none⟩ (.slice (some ⟨y + 1 + 1 + 1 + 1, 0, none⟩) 2 2)).setCell ⟨y + 1 + 1 + 1, 6, none⟩ (.bool false)).setCell ⟨y + 1 + 1 + 1, 7, none⟩ (.bool false) = v := ⟨_, rfl⟩
  have hy3 := half8_blk HY3.out (.int .i64 (20 + (n : Int) + 16)) (.slice (some ⟨y + 1 + 1 + 1 + 1, 0, none⟩) 2 2) (.bool false) (.bool false)
  have hbt := half8_but w2 (y + 1 + 1 + 1) (.int .i64 (20 + (n : Int) + 16)) (.slice (some ⟨y + 1 + 1 + 1 + 1, 0, none⟩) 2 2) (.bool false) (.bool false)
  have hs3 : w3.heap.size = y + 1 + 1 + 1 + 1 := by rw [← e3, ← Hs2.out]; simp [World.setCell]
  rw [e3] at hy3 hbt ⊢
  clear e3
  obtain ⟨w4, e4⟩ : ∃ v, w3.alloc (.cells #[.int .i64 (20 + (n : Int)), .int .i64 (N : Int), .int .i64 12, .int .i64 20] 139) = v := ⟨_, rfl⟩
  have hb4 : Below w3.heap.size w3 w4 := by rw [← e4]; exact (Below.refl _ _).alloc (Nat.le_refl _) _
  have hsp : w4.heap[y + 1 + 1 + 1 + 1]? = some (.cells #[.int .i64 (20 + (n : Int)), .int .i64 (N : Int), .int .i64 12, .int .i64 20] 139 (0, 0)) := by rw [← e4, ← hs3]; exact heap_alloc_new w3 _
  rw [e4]
  clear e4 hs3
  have HY2 := Lib.hid (blk_on (hbt.blk HY2.out (by omega)) hb4)
  have hk1 := blk_on (hbt.blk HK1.out (by have := HZ.out; omega)) hb4
  have HK1 := Lib.hid hk1
  have HSP := Lib.hid hsp
  have HB4 := Lib.hid (below_trans (HB2.out.trans (hbt.below (fun k hk => by subst hk; have := HZ.out; omega) (by have := Hs2.out; have := HZ.out; omega))) hb4)
  have hy3 := blk_on hy3 hb4
  obtain ⟨t0, t1, t2, t3, t4, t5, t6, t7⟩ := cells8n hy3
  obtain ⟨u0, u1, u2, u3, u4, u5, u6, u7⟩ := cells8n hk1
  have fz := fun i => blk_free hk1 i
  clear hsp hbt hb4 hk1 hy3
  go_wp2_with fail
  refine bodyPost_ret (v := .agg #[.int .i64 10, .slice (some ⟨y + 1 + 1, 0, none⟩) 1 1, .bool false, .bool false, .int .i64 (20 + (n : Int) + 16), .slice (some ⟨y + 1 + 1 + 1 + 1, 0, none⟩) 2 2, .bool false, .bool false])
    (results_row1 rfl _ _ (z0 + 1) _ _ _ _ rfl (set8n_blk HK1.out _ _ _ _ _ _ _ _) Tryz.underlying107 rfl (by kernel_rfl)) rfl ?_
  have hbz := set8n_but w4 (z0 + 1) (.int .i64 10) (.slice (some ⟨y + 1 + 1, 0, none⟩) 1 1) (.bool false) (.bool false) (.int .i64 (20 + (n : Int) + 16)) (.slice (some ⟨y + 1 + 1 + 1 + 1, 0, none⟩) 2 2) (.bool false) (.bool false)
  have hZ := HZ.out
  exact ⟨y + 1 + 1, y + 1 + 1 + 1 + 1, rfl, (SpRd.one HY2.out).but hbz (by omega), (SpRd.two HSP.out).but hbz (by omega), by omega, by omega, HB4.out.trans (hbz.below (fun k hk => by subst hk; have := Hz.out; omega) HB4.out.size)⟩
set_option maxHeartbeats 1000000 in
theorem fieldsof_17 (h : Hd) (A : Option Addr) (n c N : Nat) (w : World) (hn : n ≤ 1000) (hN : N ≤ 100000) (hpr : h.pr = 17) :
    Calls Tryz.prog 46 #[.agg #[.int .u8 h.to, .int .u16 h.id, .bool h.df, .int .u8 h.tt, .int .u8 h.pr, .int .u32 h.sr, .int .u32 h.ds, .slice A n c], .int .i64 (N : Int)] w (FieldsAre (20 + (n : Int)) N (20 + (n : Int) + 6) true true 2 [(20 + (n : Int), N), (12, 20)] w) := by
  obtain ⟨z0, hz⟩ : ∃ z, w.heap.size = z := ⟨_, rfl⟩
  obtain ⟨w0, ew⟩ : ∃ w0, (w.alloc (.cells #[.int .u8 h.to, .int .u16 h.id, .bool h.df, .int .u8 h.tt, .int .u8 h.pr, .int .u32 h.sr, .int .u32 h.ds, .slice A n c] 26)).alloc (.cells #[.int .i64 0, .slice none 0 0, .bool false, .bool false, .int .i64 0, .slice none 0 0, .bool false, .bool false] 107) = w0 := ⟨_, rfl⟩
  have hb0 : Below w.heap.size w w0 := by rw [← ew]; exact ((Below.refl _ _).alloc (Nat.le_refl _) _).alloc (by simp) _
  have hk0 : w0.heap[z0]? = some (.cells #[.int .u8 h.to, .int .u16 h.id, .bool h.df, .int .u8 h.tt, .int .u8 h.pr, .int .u32 h.sr, .int .u32 h.ds, .slice A n c] 26 (0, 0)) := by rw [← ew, Below.heap_alloc _ _ _ (by simp [hz]), ← hz]; exact heap_alloc_new w _
  have hk1 : w0.heap[z0 + 1]? = some (.cells #[.int .i64 0, .slice none 0 0, .bool false, .bool false, .int .i64 0, .slice none 0 0, .bool false, .bool false] 107 (0, 0)) := by
    rw [← ew, ← hz]; simpa using heap_alloc_new (w.alloc (.cells #[.int .u8 h.to, .int .u16 h.id, .bool h.df, .int .u8 h.tt, .int .u8 h.pr, .int .u32 h.sr, .int .u32 h.ds, .slice A n c] 26)) _
  have HK0 := Lib.hid hk0
  have HK1 := Lib.hid hk1
  have Hb0 := Lib.hid hb0
  have Ew := Lib.hid ew
  have Hz := Lib.hid hz
  have Hpr := Lib.hid hpr
  have hni : (n : Int) ≤ 1000 := by omega
  have hni0 : (0 : Int) ≤ (n : Int) := by omega
  have hwr : IntKind.i64.wrap (20 + (n : Int) + 6) = 20 + (n : Int) + 6 := IntWalk.i64_in _ (by omega)
  obtain ⟨k0, k1, k2, k3, k4, k5, k6, k7⟩ := cells8n hk0
  clear hz ew hb0 hk0 hk1 hpr
  go_enter Tryz.func46, Tryz.ntmps46
  go_upto_region 1 with (fail)
  rw [Ew.out]
  try rw [Hz.out]
  go_wp2_with fail
  refine (header_any h A n c _ hn).mono ?_
  rintro e w1 ⟨rfl, hb1⟩
  have HB1 := Lib.hid (below_trans Hb0.out hb1)
  have HK0 := Lib.hid (blk_on HK0.out hb1)
  have HK1 := Lib.hid (blk_on HK1.out hb1)
  clear hb1 k0 k1 k2 k3 k4 k5 k6 k7 Ew
  obtain ⟨y, ey⟩ : ∃ y, w1.heap.size = y := ⟨_, rfl⟩
  have Ey := Lib.hid ey
  go_upto_region 4 with (fail)
  try rw [ey]
  clear ey
  obtain ⟨w2, e2⟩ : ∃ v, (((w1.alloc (.cells #[.int .i64 (20 + (n : Int)), .int .i64 (N : Int)] 139)).alloc (.cells #[.int .i64 12, .int .i64 20] 139)).alloc (.cells #[.int .i64 0, .int .i64 (20 + (n : Int))] 139)).alloc
    (.cells #[.int .i64 10, .slice (some ⟨y + 1 + 1, 0, none⟩) 1 1, .bool false, .bool false, .int .i64 0, .slice none 0 0, .bool false, .bool false] 107) = v := ⟨_, rfl⟩
  have HB2 := Lib.hid (show Below w1.heap.size w1 w2 by rw [← e2]; exact ((((Below.refl _ _).alloc (Nat.le_refl _) _).alloc (by simp) _).alloc (by simp; omega) _).alloc (by simp; omega) _)
  obtain ⟨hy0, hy1, hy2, hy3, hs2⟩ := alloc4 w1 _ _ _ _ y Ey.out
  rw [e2] at hy0 hy1 hy2 hy3 hs2
  have Hs2 := Lib.hid hs2
  rw [e2]
  clear e2
  have HZ := Lib.hid (show w.heap.size ≤ y ∧ z0 + 1 < y ∧ z0 < y by have := HB1.out.size; have := Ey.out; have := lt_of_block HK1.out; exact ⟨by omega, by omega, by omega⟩)
  have HK0 := Lib.hid (blk_on HK0.out HB2.out)
  have HK1 := Lib.hid (blk_on HK1.out HB2.out)
  have HB2 := Lib.hid (below_trans HB1.out HB2.out)
  have k4 : w2.cell? ⟨z0, 4, none⟩ = some (.int .u8 17) := by rw [blk_cell HK0.out, ← Hpr.out]; rfl
  have p0 : w2.cell? ⟨y, 0, none⟩ = some (.int .i64 (20 + (n : Int))) := blk_cell hy0 0
  have p1 : w2.cell? ⟨y, 1, none⟩ = some (.int .i64 (N : Int)) := blk_cell hy0 1
  have q0 : w2.cell? ⟨y + 1, 0, none⟩ = some (.int .i64 12) := blk_cell hy1 0
  have q1 : w2.cell? ⟨y + 1, 1, none⟩ = some (.int .i64 20) := blk_cell hy1 1
  have HY2 := Lib.hid hy2
  have HY3 := Lib.hid hy3
  clear hy0 hy1 hy2 hy3 hs2
  go_upto_region 8 with (fail)
  clear k4
  have hac : ∀ (W : World) (o : Obj) (i : Nat), W.heap.size = y + 1 + 1 + 1 + 1 → (W.alloc o).cell? ⟨y + 1 + 1 + 1, i, none⟩ = W.cell? ⟨y + 1 + 1 + 1, i, none⟩ := fun W o i hs => World.cell?_of_block (w := W) (Below.heap_alloc _ _ _ (by simp only; omega))
  have haf : ∀ (W : World) (o : Obj) (i : Nat), W.heap.size = y + 1 + 1 + 1 + 1 → (W.alloc o).frozen? ⟨y + 1 + 1 + 1, i, none⟩ = W.frozen? ⟨y + 1 + 1 + 1, i, none⟩ := fun W o i hs => World.frozen?_of_block (w := W) (Below.heap_alloc _ _ _ (by simp only; omega))
  obtain ⟨t0, t1, t2, t3, t4, t5, t6, t7⟩ := cells8n HY3.out
  have fz := fun i => blk_free HY3.out i
  have hs2 := Hs2.out
  go_upto_region 11 with (fail)
  clear t0 t1 t2 t3 t4 t5 t6 t7 fz hs2 hac haf
  obtain ⟨w3, e3⟩ : ∃ v, (((w2.setCell ⟨y + 1 + 1 + 1, 4, none⟩ (.int .i64 (20 + (n : Int) + 6))).setCell ⟨y + 1 + 1 + 1, 5, none⟩ (.slice (some ⟨y + 1 + 1 + 1 + 1, 0, none⟩) 2 2)).setCell ⟨y + 1 + 1 + 1, 6, none⟩ (.bool true)).setCell ⟨y + 1 + 1 + 1, 7, none⟩ (.bool true) = v := ⟨_, rfl⟩
  have hy3 := half8_blk HY3.out (.int .i64 (20 + (n : Int) + 6)) (.slice (some ⟨y + 1 + 1 + 1 + 1, 0, none⟩) 2 2) (.bool true) (.bool true)
  have hbt := half8_but w2 (y + 1 + 1 + 1) (.int .i64 (20 + (n : Int) + 6)) (.slice (some ⟨y + 1 + 1 + 1 + 1, 0, none⟩) 2 2) (.bool true) (.bool true)
  have hs3 : w3.heap.size = y + 1 + 1 + 1 + 1 := by rw [← e3, ← Hs2.out]; simp [World.setCell]
  rw [e3] at hy3 hbt ⊢
  clear e3
  obtain ⟨w4, e4⟩ : ∃ v, w3.alloc (.cells #[.int .i64 (20 + (n : Int)), .int .i64 (N : Int), .int .i64 12, .int .i64 20] 139) = v := ⟨_, rfl⟩
  have hb4 : Below w3.heap.size w3 w4 := by rw [← e4]; exact (Below.refl _ _).alloc (Nat.le_refl _) _
  have hsp : w4.heap[y + 1 + 1 + 1 + 1]? = some (.cells #[.int .i64 (20 + (n : Int)), .int .i64 (N : Int), .int .i64 12, .int .i64 20] 139 (0, 0)) := by rw [← e4, ← hs3]; exact heap_alloc_new w3 _
  rw [e4]
  clear e4 hs3
  have HY2 := Lib.hid (blk_on (hbt.blk HY2.out (by omega)) hb4)
  have hk1 := blk_on (hbt.blk HK1.out (by have := HZ.out; omega)) hb4
  have HK1 := Lib.hid hk1
  have HSP := Lib.hid hsp
  have HB4 := Lib.hid (below_trans (HB2.out.trans (hbt.below (fun k hk => by subst hk; have := HZ.out; omega) (by have := Hs2.out; have := HZ.out; omega))) hb4)
  have hy3 := blk_on hy3 hb4
  obtain ⟨t0, t1, t2, t3, t4, t5, t6, t7⟩ := cells8n hy3
  obtain ⟨u0, u1, u2, u3, u4, u5, u6, u7⟩ := cells8n hk1
  have fz := fun i => blk_free hk1 i
  clear hsp hbt hb4 hk1 hy3
  go_wp2_with fail
  refine bodyPost_ret (v := .agg #[.int .i64 10, .slice (some ⟨y + 1 + 1, 0, none⟩) 1 1, .bool false, .bool false, .int .i64 (20 + (n : Int) + 6), .slice (some ⟨y + 1 + 1 + 1 + 1, 0, none⟩) 2 2, .bool true, .bool true])
    (results_row1 rfl _ _ (z0 + 1) _ _ _ _ rfl (set8n_blk HK1.out _ _ _ _ _ _ _ _) Tryz.underlying107 rfl (by kernel_rfl)) rfl ?_
  have hbz := set8n_but w4 (z0 + 1) (.int .i64 10) (.slice (some ⟨y + 1 + 1, 0, none⟩) 1 1) (.bool false) (.bool false) (.int .i64 (20 + (n : Int) + 6)) (.slice (some ⟨y + 1 + 1 + 1 + 1, 0, none⟩) 2 2) (.bool true) (.bool true)
  have hZ := HZ.out
  exact ⟨y + 1 + 1, y + 1 + 1 + 1 + 1, rfl, (SpRd.one HY2.out).but hbz (by omega), (SpRd.two HSP.out).but hbz (by omega), by omega, by omega, HB4.out.trans (hbz.below (fun k hk => by subst hk; have := Hz.out; omega) HB4.out.size)⟩
set_option maxHeartbeats 1000000 in
theorem fieldsof_1 (h : Hd) (A : Option Addr) (n c N : Nat) (w : World) (hn : n ≤ 1000) (hN : N ≤ 100000) (hpr : h.pr = 1) :
    Calls Tryz.prog 46 #[.agg #[.int .u8 h.to, .int .u16 h.id, .bool h.df, .int .u8 h.tt, .int .u8 h.pr, .int .u32 h.sr, .int .u32 h.ds, .slice A n c], .int .i64 (N : Int)] w (FieldsAre (20 + (n : Int)) N (20 + (n : Int) + 2) false true 1 [(20 + (n : Int), N)] w) := by
  obtain ⟨z0, hz⟩ : ∃ z, w.heap.size = z := ⟨_, rfl⟩
  obtain ⟨w0, ew⟩ : ∃ w0, (w.alloc (.cells #[.int .u8 h.to, .int .u16 h.id, .bool h.df, .int .u8 h.tt, .int .u8 h.pr, .int .u32 h.sr, .int .u32 h.ds, .slice A n c] 26)).alloc (.cells #[.int .i64 0, .slice none 0 0, .bool false, .bool false, .int .i64 0, .slice none 0 0, .bool false, .bool false] 107) = w0 := ⟨_, rfl⟩
  have hb0 : Below w.heap.size w w0 := by rw [← ew]; exact ((Below.refl _ _).alloc (Nat.le_refl _) _).alloc (by simp) _
  have hk0 : w0.heap[z0]? = some (.cells #[.int .u8 h.to, .int .u16 h.id, .bool h.df, .int .u8 h.tt, .int .u8 h.pr, .int .u32 h.sr, .int .u32 h.ds, .slice A n c] 26 (0, 0)) := by rw [← ew, Below.heap_alloc _ _ _ (by simp [hz]), ← hz]; exact heap_alloc_new w _
  have hk1 : w0.heap[z0 + 1]? = some (.cells #[.int .i64 0, .slice none 0 0, .bool false, .bool false, .int .i64 0, .slice none 0 0, .bool false, .bool false] 107 (0, 0)) := by
    rw [← ew, ← hz]; simpa using heap_alloc_new (w.alloc (.cells #[.int .u8 h.to, .int .u16 h.id, .bool h.df, .int .u8 h.tt, .int .u8 h.pr, .int .u32 h.sr, .int .u32 h.ds, .slice A n c] 26)) _
  have HK0 := Lib.hid hk0
  have HK1 := Lib.hid hk1
  have Hb0 := Lib.hid hb0
  have Ew := Lib.hid ew
  have Hz := Lib.hid hz
  have Hpr := Lib.hid hpr
  have hni : (n : Int) ≤ 1000 := by omega
  have hni0 : (0 : Int) ≤ (n : Int) := by omega
  have hwr : IntKind.i64.wrap (20 + (n : Int) + 2) = 20 + (n : Int) + 2 := IntWalk.i64_in _ (by omega)
  obtain ⟨k0, k1, k2, k3, k4, k5, k6, k7⟩ := cells8n hk0
  clear hz ew hb0 hk0 hk1 hpr
  go_enter Tryz.func46, Tryz.ntmps46
  go_upto_region 1 with (fail)
  rw [Ew.out]
  try rw [Hz.out]
  go_wp2_with fail
  refine (header_any h A n c _ hn).mono ?_
  rintro e w1 ⟨rfl, hb1⟩
  have HB1 := Lib.hid (below_trans Hb0.out hb1)
  have HK0 := Lib.hid (blk_on HK0.out hb1)
  have HK1 := Lib.hid (blk_on HK1.out hb1)
  clear hb1 k0 k1 k2 k3 k4 k5 k6 k7 Ew
  obtain ⟨y, ey⟩ : ∃ y, w1.heap.size = y := ⟨_, rfl⟩
  have Ey := Lib.hid ey
  go_upto_region 4 with (fail)
  try rw [ey]
  clear ey
  obtain ⟨w2, e2⟩ : ∃ v, (((w1.alloc (.cells #[.int .i64 (20 + (n : Int)), .int .i64 (N : Int)] 139)).alloc (.cells #[.int .i64 12, .int .i64 20] 139)).alloc (.cells #[.int .i64 0, .int .i64 (20 + (n : Int))] 139)).alloc
    (.cells #[.int .i64 10, .slice (some ⟨y + 1 + 1, 0, none⟩) 1 1, .bool false, .bool false, .int .i64 0, .slice none 0 0, .bool false, .bool false] 107) = v := ⟨_, rfl⟩
  have HB2 := Lib.hid (show Below w1.heap.size w1 w2 by rw [← e2]; exact ((((Below.refl _ _).alloc (Nat.le_refl _) _).alloc (by simp) _).alloc (by simp; omega) _).alloc (by simp; omega) _)
  obtain ⟨hy0, hy1, hy2, hy3, hs2⟩ := alloc4 w1 _ _ _ _ y Ey.out
  rw [e2] at hy0 hy1 hy2 hy3 hs2
  have Hs2 := Lib.hid hs2
  rw [e2]
  clear e2
  have HZ := Lib.hid (show w.heap.size ≤ y ∧ z0 + 1 < y ∧ z0 < y by have := HB1.out.size; have := Ey.out; have := lt_of_block HK1.out; exact ⟨by omega, by omega, by omega⟩)
  have HK0 := Lib.hid (blk_on HK0.out HB2.out)
  have HK1 := Lib.hid (blk_on HK1.out HB2.out)
  have HB2 := Lib.hid (below_trans HB1.out HB2.out)
  have k4 : w2.cell? ⟨z0, 4, none⟩ = some (.int .u8 1) := by rw [blk_cell HK0.out, ← Hpr.out]; rfl
  have p0 : w2.cell? ⟨y, 0, none⟩ = some (.int .i64 (20 + (n : Int))) := blk_cell hy0 0
  have p1 : w2.cell? ⟨y, 1, none⟩ = some (.int .i64 (N : Int)) := blk_cell hy0 1
  have q0 : w2.cell? ⟨y + 1, 0, none⟩ = some (.int .i64 12) := blk_cell hy1 0
  have q1 : w2.cell? ⟨y + 1, 1, none⟩ = some (.int .i64 20) := blk_cell hy1 1
  have HY2 := Lib.hid hy2
  have HY3 := Lib.hid hy3
  clear hy0 hy1 hy2 hy3 hs2
  go_upto_region 10 with (fail)
  clear k4
  have hac : ∀ (W : World) (o : Obj) (i : Nat), W.heap.size = y + 1 + 1 + 1 + 1 → (W.alloc o).cell? ⟨y + 1 + 1 + 1, i, none⟩ = W.cell? ⟨y + 1 + 1 + 1, i, none⟩ := fun W o i hs => World.cell?_of_block (w := W) (Below.heap_alloc _ _ _ (by simp only; omega))
  have haf : ∀ (W : World) (o : Obj) (i : Nat), W.heap.size = y + 1 + 1 + 1 + 1 → (W.alloc o).frozen? ⟨y + 1 + 1 + 1, i, none⟩ = W.frozen? ⟨y + 1 + 1 + 1, i, none⟩ := fun W o i hs => World.frozen?_of_block (w := W) (Below.heap_alloc _ _ _ (by simp only; omega))
  obtain ⟨t0, t1, t2, t3, t4, t5, t6, t7⟩ := cells8n HY3.out
  have fz := fun i => blk_free HY3.out i
  have hs2 := Hs2.out
  go_upto_region 11 with (fail)
  clear t0 t1 t2 t3 t4 t5 t6 t7 fz hs2 hac haf
  obtain ⟨w3, e3⟩ : ∃ v, (((w2.setCell ⟨y + 1 + 1 + 1, 4, none⟩ (.int .i64 (20 + (n : Int) + 2))).setCell ⟨y + 1 + 1 + 1, 5, none⟩ (.slice (some ⟨y + 1 + 1 + 1 + 1, 0, none⟩) 1 1)).setCell ⟨y + 1 + 1 + 1, 6, none⟩ (.bool false)).setCell ⟨y + 1 + 1 + 1, 7, none⟩ (.bool true) = v := ⟨_, rfl⟩
  have hy3 := half8_blk HY3.out (.int .i64 (20 + (n : Int) + 2)) (.slice (some ⟨y + 1 + 1 + 1 + 1, 0, none⟩) 1 1) (.bool false) (.bool true)
  have hbt := half8_but w2 (y + 1 + 1 + 1) (.int .i64 (20 + (n : Int) + 2)) (.slice (some ⟨y + 1 + 1 + 1 + 1, 0, none⟩) 1 1) (.bool false) (.bool true)
  have hs3 : w3.heap.size = y + 1 + 1 + 1 + 1 := by rw [← e3, ← Hs2.out]; simp [World.setCell]
  rw [e3] at hy3 hbt ⊢
  clear e3
  obtain ⟨w4, e4⟩ : ∃ v, w3.alloc (.cells #[.int .i64 (20 + (n : Int)), .int .i64 (N : Int)] 139) = v := ⟨_, rfl⟩
  have hb4 : Below w3.heap.size w3 w4 := by rw [← e4]; exact (Below.refl _ _).alloc (Nat.le_refl _) _
  have hsp : w4.heap[y + 1 + 1 + 1 + 1]? = some (.cells #[.int .i64 (20 + (n : Int)), .int .i64 (N : Int)] 139 (0, 0)) := by rw [← e4, ← hs3]; exact heap_alloc_new w3 _
  rw [e4]
  clear e4 hs3
  have HY2 := Lib.hid (blk_on (hbt.blk HY2.out (by omega)) hb4)
  have hk1 := blk_on (hbt.blk HK1.out (by have := HZ.out; omega)) hb4
  have HK1 := Lib.hid hk1
  have HSP := Lib.hid hsp
  have HB4 := Lib.hid (below_trans (HB2.out.trans (hbt.below (fun k hk => by subst hk; have := HZ.out; omega) (by have := Hs2.out; have := HZ.out; omega))) hb4)
  have hy3 := blk_on hy3 hb4
  obtain ⟨t0, t1, t2, t3, t4, t5, t6, t7⟩ := cells8n hy3
  obtain ⟨u0, u1, u2, u3, u4, u5, u6, u7⟩ := cells8n hk1
  have fz := fun i => blk_free hk1 i
  clear hsp hbt hb4 hk1 hy3
  go_wp2_with fail
  refine bodyPost_ret (v := .agg #[.int .i64 10, .slice (some ⟨y + 1 + 1, 0, none⟩) 1 1, .bool false, .bool false, .int .i64 (20 + (n : Int) + 2), .slice (some ⟨y + 1 + 1 + 1 + 1, 0, none⟩) 1 1, .bool false, .bool true])
    (results_row1 rfl _ _ (z0 + 1) _ _ _ _ rfl (set8n_blk HK1.out _ _ _ _ _ _ _ _) Tryz.underlying107 rfl (by kernel_rfl)) rfl ?_
  have hbz := set8n_but w4 (z0 + 1) (.int .i64 10) (.slice (some ⟨y + 1 + 1, 0, none⟩) 1 1) (.bool false) (.bool false) (.int .i64 (20 + (n : Int) + 2)) (.slice (some ⟨y + 1 + 1 + 1 + 1, 0, none⟩) 1 1) (.bool false) (.bool true)
  have hZ := HZ.out
  exact ⟨y + 1 + 1, y + 1 + 1 + 1 + 1, rfl, (SpRd.one HY2.out).but hbz (by omega), (SpRd.one HSP.out).but hbz (by omega), by omega, by omega, HB4.out.trans (hbz.below (fun k hk => by subst hk; have := Hz.out; omega) HB4.out.size)⟩
end Go.Proofs.YtheknmihnkennaaGreat
