/-
  The contracts of package opts' Mss, Scale, SackOk, Sacks.
-/
import Derived.Test.YtikfklbgncdbnaaOptSearch
import Derived.Test.YtikfklbgncdbnaaWireRead
namespace Go.Proofs.Ytikfklbgncdbnaa
set_option maxRecDepth 10000
open Go.RowKit

theorem findP_mss : findP 2 [2] = mssP := by
  funext l; unfold findP mssP; simp only [List.contains_eq_mem, List.mem_singleton]; congr 1; rw [decide_eq_decide]; omega
theorem findP_scale : findP 3 [1] = scaleP := by
  funext l; unfold findP scaleP; simp only [List.contains_eq_mem, List.mem_singleton]; congr 1; rw [decide_eq_decide]; omega
theorem findP_sack : findP 4 [0] = sackP := by
  funext l; unfold findP sackP; simp only [List.contains_eq_mem, List.mem_singleton]; congr 1; rw [decide_eq_decide]; omega
theorem findP_sacks : findP 5 [8, 16, 24, 32] = sacksP := by
  funext l; unfold findP sacksP
  simp only [List.contains_eq_mem, List.mem_cons, List.not_mem_nil, or_false, Bool.decide_and]
  by_cases h : l.1 = 5
  · simp only [h, decide_true, Bool.true_and]
    rw [← Bool.decide_and, ← Bool.decide_and, decide_eq_decide]; omega
  · simp [h]

def GotR (p : Nat) (t : TypeId) (v : Value) (_w1 : World) (x : Int) (w' : World) : Prop := x = 0 ∧ Box w' p t v
theorem did_ok {B g p : Nat} {l : List Int} {at_ : Int} {w w1 : World} {t : TypeId} {v0 v : Value} (hp : p < B) (hpg : p ≠ g) (hR : Rdr w1 B g l at_) (hb : But (fun k => k = g) w w1) (hbox : Box w p t v0) :
    Did (fun k => k = p) g (GotR p t v w) w (.returned (.tuple #[])) (w1.setCell ⟨p, 0, none⟩ v) := by
  have hset : But (fun k => k = p) w1 (w1.setCell ⟨p, 0, none⟩ v) := (But.refl (fun k => k = p) _).setCell (p := ⟨p, 0, none⟩) rfl _
  obtain ⟨A, n, c, _, _, _, _, _, hg, _⟩ := hR.but hset (fun k hk => by omega)
  exact ⟨0, A, n, c, _, .inl ⟨rfl, rfl⟩, hg, (hb.mono (fun _ _ h => .inr h)).trans (hset.mono (fun _ _ h => .inl h)), rfl, (hbox.but hb hpg).set_ v⟩

theorem mss_do (B g p : Nat) (x y : Int) (w : World) (hp : p < B) (hbox : Box w p 43 (.int .u16 0)) (h : Rdr w B g [x, y] 0) :
    Calls Try.prog 51 #[.pointer (some ⟨g, 0, none⟩), .pointer (some ⟨p, 0, none⟩)] w (Did (fun k => k = p) g (GotR p 43 (.int .u16 (x * 256 + y)) w) w) := by
  have hg : B ≤ g := h.choose_spec.choose_spec.choose_spec.2.2.2.1.1
  have hpg : p ≠ g := by omega
  have Hu := Lib.hid (u16_told B g x y [] 0 w h)
  clear h
  go_enter Try.func51, Try.ntmps51
  go_wp2_with fail
  refine Hu.out.mono ?_
  rintro e w1 ⟨rfl, hR1, hb1⟩
  have h11 := hbox.but hb1 hpg
  have b1 := h11.cell
  have f1 := h11.free
  have Hd := Lib.hid (did_ok (v := .int .u16 (x * 256 + y)) hp hpg hR1 hb1 hbox)
  clear hR1 hb1 h11 hbox
  go_wp2_with fail
  go_end0
  exact Hd.out
theorem scale_do (B g p : Nat) (x : Int) (w : World) (hp : p < B) (hbox : Box w p 5 (.int .u8 0)) (h : Rdr w B g [x] 0) :
    Calls Try.prog 53 #[.pointer (some ⟨g, 0, none⟩), .pointer (some ⟨p, 0, none⟩)] w (Did (fun k => k = p) g (GotR p 5 (.int .u8 x) w) w) := by
  have hg : B ≤ g := h.choose_spec.choose_spec.choose_spec.2.2.2.1.1
  have hpg : p ≠ g := by omega
  have Hu := Lib.hid (u8_told B g x [] 0 w h)
  clear h
  go_enter Try.func53, Try.ntmps53
  go_wp2_with fail
  refine Hu.out.mono ?_
  rintro e w1 ⟨rfl, hR1, hb1⟩
  have h11 := hbox.but hb1 hpg
  have b1 := h11.cell
  have f1 := h11.free
  have Hd := Lib.hid (did_ok (v := .int .u8 x) hp hpg hR1 hb1 hbox)
  clear hR1 hb1 h11 hbox
  go_wp2_with fail
  go_end0
  exact Hd.out

theorem sackok_any (A : Option Addr) (n c : Nat) (os : List OptV) (ls : List (Int × List Int)) (w : World) (hn : n ≤ 1000000) (hr : RdO w A n os) (hs : Reads w os ls) :
    Calls Try.prog 25 #[.slice A n c] w (OptBool (sackL ls) w) := by
  have hba : Below w.heap.size w (w.alloc (.cells #[.int .i64 0] 3)) := (Below.refl _ _).alloc (Nat.le_refl _) _
  have hi : RdI (w.alloc (.cells #[.int .i64 0] 3)) (some ⟨w.heap.size, 0, none⟩) 1 [0] := RdI.const w w.heap.size rfl [0] _ _
  have Hs := Lib.hid (search_any 4 (some ⟨w.heap.size, 0, none⟩) 1 1 (w.alloc (.cells #[.int .i64 0] 3)))
  have Hfn := Lib.hid (fun w1 p q (hb : Below (w.alloc (.cells #[.int .i64 0] 3)).heap.size (w.alloc (.cells #[.int .i64 0] 3)) w1) (hp : Box w1 p 5 (.int .u8 4)) (hq : Box w1 q 103 (.slice (some ⟨w.heap.size, 0, none⟩) 1 1)) =>
    search1_any 4 p q (some ⟨w.heap.size, 0, none⟩) 1 1 [0] A n c os ls w1 (by omega) hn hp hq (hi.below hb) ((hr.below hba).below hb) ((hs.below hba).below hb))
  rw [findP_sack] at Hfn
  have Hba := Lib.hid hba
  clear hba hi hr hs
  go_enter Try.func25, Try.ntmps25
  go_wp2_with fail
  refine Hs.out.mono ?_
  rintro e w1 ⟨p, q, rfl, hp, hq, hb⟩
  have Hf := Lib.hid (Hfn.out w1 p q hb hp hq)
  have Hb := Lib.hid (below_trans Hba.out hb)
  clear hp hq hb
  go_wp2_with fail
  refine Hf.out.mono ?_
  rintro e w2 ⟨hb2, ⟨hno, rfl⟩ | ⟨l, A1, n1, c1, hl, rfl, _⟩⟩
  · have Hfin := Lib.hid (show sackL ls = false by unfold sackL; rw [hno]; rfl)
    have Hb2 := Lib.hid (below_trans Hb.out hb2)
    clear hno hb2
    go_wp2_with fail
    go_ret
    exact ⟨by rw [Hfin.out]; rfl, Hb2.out⟩
  · have Hfin := Lib.hid (show sackL ls = true by unfold sackL; rw [hl]; rfl)
    have Hb2 := Lib.hid (below_trans Hb.out hb2)
    clear hl hb2
    go_wp2_with fail
    go_ret
    exact ⟨by rw [Hfin.out]; rfl, Hb2.out⟩

theorem mss_any (A : Option Addr) (n c : Nat) (os : List OptV) (ls : List (Int × List Int)) (w : World) (hn : n ≤ 1000000) (hr : RdO w A n os) (hs : Reads w os ls) :
    Calls Try.prog 21 #[.slice A n c] w (PairIs .u16 (mssL ls).1 (mssL ls).2 w) := by
  have hmf : ∀ (fn : Fn) (first cap : Array Value) (w : World), (Instr.makeFunc fn first cap).run Try.prog w = .ok (.func fn first cap) w := fun _ _ _ _ => rfl
  have hba : Below w.heap.size w (w.alloc (.cells #[.int .i64 2] 3)) := (Below.refl _ _).alloc (Nat.le_refl _) _
  have hi : RdI (w.alloc (.cells #[.int .i64 2] 3)) (some ⟨w.heap.size, 0, none⟩) 1 [2] := RdI.const w w.heap.size rfl [2] _ _
  have Hs := Lib.hid (search_any 2 (some ⟨w.heap.size, 0, none⟩) 1 1 (w.alloc (.cells #[.int .i64 2] 3)))
  have Hfn := Lib.hid (fun w1 p q (hb : Below (w.alloc (.cells #[.int .i64 2] 3)).heap.size (w.alloc (.cells #[.int .i64 2] 3)) w1) (hp : Box w1 p 5 (.int .u8 2)) (hq : Box w1 q 103 (.slice (some ⟨w.heap.size, 0, none⟩) 1 1)) =>
    search1_any 2 p q (some ⟨w.heap.size, 0, none⟩) 1 1 [2] A n c os ls w1 (by omega) hn hp hq (hi.below hb) ((hr.below hba).below hb) ((hs.below hba).below hb))
  rw [findP_mss] at Hfn
  have Hba := Lib.hid hba
  clear hba hi hr hs
  go_enter Try.func21, Try.ntmps21
  go_wp2_with fail
  refine Hs.out.mono ?_
  rintro e w1 ⟨p, q, rfl, hp, hq, hb⟩
  have Hf := Lib.hid (Hfn.out w1 p q hb hp hq)
  have Hb := Lib.hid (below_trans Hba.out hb)
  clear hp hq hb Hs Hfn
  go_wp2_with fail
  refine Hf.out.mono ?_
  rintro e w2 ⟨hb2, ⟨hno, rfl⟩ | ⟨l, A1, n1, c1, hl, rfl, hnc, hcm, hr1⟩⟩
  · have Hfin := Lib.hid (show mssL ls = (0, false) by unfold mssL; rw [hno])
    have Hb2 := Lib.hid (below_trans Hb.out hb2)
    clear hno hb2
    go_wp2_with fail
    go_ret2
    rw [Hfin.out]
    exact ⟨rfl, Hb2.out⟩
  · have hlp := List.find?_some hl
    obtain ⟨k, d⟩ := l
    have hd2 : d.length = 2 := by unfold mssP at hlp; simp at hlp; exact hlp.2
    have hn2 : n1 = 2 := by rw [← hr1.len, hd2]
    subst hn2
    match d, hd2 with
    | [x, y], _ =>
    have Hfin := Lib.hid (show mssL ls = (x * 256 + y, true) by unfold mssL; rw [hl]; rfl)
    have Hb2 := Lib.hid (below_trans Hb.out hb2)
    obtain ⟨z, hz⟩ : ∃ z, w2.heap.size = z := ⟨_, rfl⟩
    have hba : Below w2.heap.size w2 (w2.alloc (.cells #[.int .u16 0] 43)) := (Below.refl _ _).alloc (Nat.le_refl _) _
    have hbox : Box (w2.alloc (.cells #[.int .u16 0] 43)) z 43 (.int .u16 0) := by rw [← hz]; exact Box.new _ _ _
    have hsz : (w2.alloc (.cells #[.int .u16 0] 43)).heap.size = z + 1 := by simp [hz]
    have hdo := fun w3 g (hb : Below (w2.alloc (.cells #[.int .u16 0] 43)).heap.size (w2.alloc (.cells #[.int .u16 0] 43)) w3) (_ : (w2.alloc (.cells #[.int .u16 0] 43)).heap.size ≤ g) (_ : g < w3.heap.size) (hR : Rdr w3 (w2.alloc (.cells #[.int .u16 0] 43)).heap.size g [x, y] 0) =>
      mss_do _ g z x y w3 (by omega) (hbox.below hb (by omega)) hR
    have Hread := Lib.hid (read_any (fun k => k = z) _ 2 c1 #[.pointer (some ⟨z, 0, none⟩)] _ (fun _ => rfl) A1 [x, y] _ (w2.alloc (.cells #[.int .u16 0] 43)) (fun k hk => by omega) (by omega) (hr1.below hba) (enter_of Try.func51 (by kernel_rfl) rfl) hdo)
    have Hba2 := Lib.hid hba
    clear hlp hl hr1 hb2 hba hbox hdo
    go_wp2_with fail
    refine Hread.out.mono ?_
    rintro e w4 ⟨x4, w3, w5, rfl, hb1, ⟨hx, hbox⟩, hb4, hb5⟩
    have hbox4 := hbox.but hb4 (by have := hb1.size; omega)
    have hc4 := hbox4.cell
    have hbw := Hb2.out.trans (Hba2.out.mono (B' := w.heap.size) Hb2.out.size)
    have Hbw := Lib.hid (show Below w.heap.size w w4 from hbw.trans (hb5.below (B := w.heap.size) (fun k hk => by have := Hb2.out.size; omega) (by have := Hb2.out.size; omega)))
    clear hbw hb1 hx hbox hb4 hb5 hbox4
    go_wp2_with fail
    go_ret2
    rw [Hfin.out]
    exact ⟨rfl, Hbw.out⟩

theorem scale_any (A : Option Addr) (n c : Nat) (os : List OptV) (ls : List (Int × List Int)) (w : World) (hn : n ≤ 1000000) (hr : RdO w A n os) (hs : Reads w os ls) :
    Calls Try.prog 23 #[.slice A n c] w (PairIs .i64 (scaleL ls).1 (scaleL ls).2 w) := by
  have hmf : ∀ (fn : Fn) (first cap : Array Value) (w : World), (Instr.makeFunc fn first cap).run Try.prog w = .ok (.func fn first cap) w := fun _ _ _ _ => rfl
  have hba : Below w.heap.size w (w.alloc (.cells #[.int .i64 1] 3)) := (Below.refl _ _).alloc (Nat.le_refl _) _
  have hi : RdI (w.alloc (.cells #[.int .i64 1] 3)) (some ⟨w.heap.size, 0, none⟩) 1 [1] := RdI.const w w.heap.size rfl [1] _ _
  have Hs := Lib.hid (search_any 3 (some ⟨w.heap.size, 0, none⟩) 1 1 (w.alloc (.cells #[.int .i64 1] 3)))
  have Hfn := Lib.hid (fun w1 p q (hb : Below (w.alloc (.cells #[.int .i64 1] 3)).heap.size (w.alloc (.cells #[.int .i64 1] 3)) w1) (hp : Box w1 p 5 (.int .u8 3)) (hq : Box w1 q 103 (.slice (some ⟨w.heap.size, 0, none⟩) 1 1)) =>
    search1_any 3 p q (some ⟨w.heap.size, 0, none⟩) 1 1 [1] A n c os ls w1 (by omega) hn hp hq (hi.below hb) ((hr.below hba).below hb) ((hs.below hba).below hb))
  rw [findP_scale] at Hfn
  have Hba := Lib.hid hba
  clear hba hi hr hs
  go_enter Try.func23, Try.ntmps23
  go_wp2_with fail
  refine Hs.out.mono ?_
  rintro e w1 ⟨p, q, rfl, hp, hq, hb⟩
  have Hf := Lib.hid (Hfn.out w1 p q hb hp hq)
  have Hb := Lib.hid (below_trans Hba.out hb)
  clear hp hq hb Hs Hfn
  go_wp2_with fail
  refine Hf.out.mono ?_
  rintro e w2 ⟨hb2, ⟨hno, rfl⟩ | ⟨l, A1, n1, c1, hl, rfl, hnc, hcm, hr1⟩⟩
  · have Hfin := Lib.hid (show scaleL ls = (0, false) by unfold scaleL; rw [hno])
    have Hb2 := Lib.hid (below_trans Hb.out hb2)
    clear hno hb2
    go_wp2_with fail
    go_ret2
    rw [Hfin.out]
    exact ⟨rfl, Hb2.out⟩
  · have hlp := List.find?_some hl
    obtain ⟨k, d⟩ := l
    have hd2 : d.length = 1 := by unfold scaleP at hlp; simp at hlp; exact hlp.2
    have hn2 : n1 = 1 := by rw [← hr1.len, hd2]
    subst hn2
    match d, hd2 with
    | [x], _ =>
    have hxb := hr1.byte x (by simp)
    have Hfin := Lib.hid (show scaleL ls = (if 14 < x then 14 else x, true) by unfold scaleL; rw [hl]; rfl)
    have Hb2 := Lib.hid (below_trans Hb.out hb2)
    obtain ⟨z, hz⟩ : ∃ z, w2.heap.size = z := ⟨_, rfl⟩
    have hba : Below w2.heap.size w2 (w2.alloc (.cells #[.int .u8 0] 5)) := (Below.refl _ _).alloc (Nat.le_refl _) _
    have hbox : Box (w2.alloc (.cells #[.int .u8 0] 5)) z 5 (.int .u8 0) := by rw [← hz]; exact Box.new _ _ _
    have hsz : (w2.alloc (.cells #[.int .u8 0] 5)).heap.size = z + 1 := by simp [hz]
    have hdo := fun w3 g (hb : Below (w2.alloc (.cells #[.int .u8 0] 5)).heap.size (w2.alloc (.cells #[.int .u8 0] 5)) w3) (_ : (w2.alloc (.cells #[.int .u8 0] 5)).heap.size ≤ g) (_ : g < w3.heap.size) (hR : Rdr w3 (w2.alloc (.cells #[.int .u8 0] 5)).heap.size g [x] 0) =>
      scale_do _ g z x w3 (by omega) (hbox.below hb (by omega)) hR
    have Hread := Lib.hid (read_any (fun k => k = z) _ 1 c1 #[.pointer (some ⟨z, 0, none⟩)] _ (fun _ => rfl) A1 [x] _ (w2.alloc (.cells #[.int .u8 0] 5)) (fun k hk => by omega) (by omega) (hr1.below hba) (enter_of Try.func53 (by kernel_rfl) rfl) hdo)
    have Hba2 := Lib.hid hba
    clear hlp hl hr1 hb2 hba hbox hdo
    go_wp2_with fail
    refine Hread.out.mono ?_
    rintro e w4 ⟨x4, w3, w5, rfl, hb1, ⟨hx, hbox⟩, hb4, hb5⟩
    have hbox4 := hbox.but hb4 (by have := hb1.size; omega)
    have hc4 := hbox4.cell
    have hbw := Hb2.out.trans (Hba2.out.mono (B' := w.heap.size) Hb2.out.size)
    have Hbw := Lib.hid (show Below w.heap.size w w4 from hbw.trans (hb5.below (B := w.heap.size) (fun k hk => by have := Hb2.out.size; omega) (by have := Hb2.out.size; omega)))
    clear hbw hb1 hx hbox hb4 hb5 hbox4
    by_cases hx14 : 14 < x
    · have Hf2 := Lib.hid (show scaleL ls = (14, true) by rw [Hfin.out, if_pos hx14])
      go_wp2_with fail
      go_ret2
      rw [Hf2.out]
      exact ⟨rfl, Hbw.out⟩
    · have Hf2 := Lib.hid (show scaleL ls = (x, true) by rw [Hfin.out, if_neg hx14])
      go_wp2_with fail
      go_ret2
      rw [Hf2.out]
      exact ⟨rfl, Hbw.out⟩
end Go.Proofs.Ytikfklbgncdbnaa
