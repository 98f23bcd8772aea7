/-
  Texts laid together: Udp, UdpPut, IpPut.
-/
import Derived.Test.YtoegfgbalcholaaZA12
import Derived.Test.YtoegfgbalcholaaZA04
import Derived.Test.YtoegfgbalcholaaZA09
import Derived.Test.YtoegfgbalcholaaZA06
import Derived.Deep.RegionHeld3
import Derived.Test.YtoegfgbalcholaaZA01
import Derived.Deep.CutRange
import Derived.Test.YtoegfgbalcholaaZA03
import Derived.Test.YtoegfgbalcholaaZA05

/-
  Package udp: what a datagram's bytes are; the contracts of word, fieldOf, and of the closure within Put.
-/
namespace Go.Proofs.Ytoegfgbalcholaa
set_option maxRecDepth 10000
open Go.RowKit

/-- The field of bytes: never 0000. -/
def fldU (l : List Int) : Int := if 65535 - sumL l = 0 then 65535 else 65535 - sumL l
def hdU (s : Dg) : List Int := be16 s.sp ++ be16 s.dp ++ be16 (8 + (s.d.length : Int))
def fieldU (src dst : Int) (s : Dg) : Int := fldU (pseudoL src dst 17 (8 + (s.d.length : Int)) ++ (hdU s ++ s.d))
/-- A datagram's bytes. -/
def dgB (src dst : Int) (s : Dg) : List Int := hdU s ++ (be16 (fieldU src dst s) ++ s.d)
theorem fldU_bd (l : List Int) : 0 < fldU l ∧ fldU l < 65536 := by
  have := sumL_bd l
  unfold fldU
  split <;> omega
theorem be16_bytes {x : Int} (h : 0 ≤ x ∧ x < 65536) : ∀ y ∈ be16 x, 0 ≤ y ∧ y < 256 := by intro y hy; simp [be16] at hy; omega
theorem hdU_bytes {s : Dg} (h : DgNum s) (hl : s.d.length ≤ 1472) : ∀ x ∈ hdU s, 0 ≤ x ∧ x < 256 := by
  obtain ⟨h1, h2⟩ := h
  intro x hx
  simp [hdU, be16] at hx
  omega
theorem word_row (x : Int) (w : World) (hx : 0 ≤ x ∧ x < 65536) :
    Calls Try.prog 41 #[.int .u16 x] w (RowIs 2 (be16 x) w) := by
  have Hu := Lib.hid (u16_lays none 0 0 [] x w hx (by simp [maxLen]) (by omega) (Rd.nil _ _))
  go_enter Try.func41, Try.ntmps41
  go_wp2_with fail
  refine Hu.out.mono ?_
  rintro e w1 ⟨A1, c1, rfl, h1, h2, hown, hb1⟩
  have Ho := Lib.hid hown
  have Hb := Lib.hid hb1
  clear hown hb1
  go_wp2_with fail
  go_ret
  exact ⟨A1, c1, rfl, h1, h2, Ho.out, Hb.out⟩

theorem fieldof_any (A : Option Addr) (n c : Nat) (ls : List (List Int)) (w : World) (x : Int) (hn : n ≤ 1000) (h : RdL w A n ls) (hx : fldU ls.flatten = x) :
    Calls Try.prog 42 #[.slice A n c] w (SumIs x w) := by
  have Hf := Lib.hid (field_any A n c ls w (by omega) h)
  unfold fldU at hx
  obtain ⟨y, ey⟩ : ∃ y, 65535 - sumL ls.flatten = y := ⟨_, rfl⟩
  rw [ey] at Hf hx
  clear h ey
  by_cases hy : y = 0
  · subst hy
    rw [if_pos rfl] at hx
    subst hx
    go_enter Try.func42, Try.ntmps42
    go_wp2_with fail
    refine Hf.out.mono ?_
    rintro e w1 ⟨rfl, hb1⟩
    have Hb := Lib.hid hb1
    clear hb1
    go_wp2_with fail
    go_ret
    exact ⟨rfl, Hb.out⟩
  · rw [if_neg hy] at hx
    subst hx
    have hy2 : (y == 0) = false := by simpa using hy
    have hy3 : (y != 0) = true := by simpa using hy
    clear hy
    go_enter Try.func42, Try.ntmps42
    go_wp2_with fail
    refine Hf.out.mono ?_
    rintro e w1 ⟨rfl, hb1⟩
    have Hb := Lib.hid hb1
    clear hb1
    go_wp2_with fail
    go_ret
    exact ⟨rfl, Hb.out⟩

/-- A row grows in a box of the caller's own: nothing else that was there turns but the row. -/
def LaidU (p B : Nat) (A1 : Option Addr) (m : Nat) (l : List Int) (w : World) (e : Ending) (w' : World) : Prop :=
  e = .returned (.tuple #[]) ∧ (∃ A2 c2, Box w' p 22 (.slice A2 m c2) ∧ OwnB w' B A2 m c2 l) ∧ But (fun k => k = p ∨ A1 = some ⟨k, 0, none⟩) w w'

theorem own_block {w : World} {B : Nat} {A : Option Addr} {n c : Nat} {l : List Int} (h : OwnB w B A n c l) (g : Nat) : (Value.slice A n c).ownBlock = some g → A = some ⟨g, 0, none⟩ ∧ g < w.heap.size := by
  intro e
  rcases h.2 with ⟨e1, _⟩ | ⟨g', cap, cur, e1, hBg, hg, _⟩
  · injection e1 with e1 _ _
    subst e1
    simp [Value.ownBlock] at e
  · injection e1 with e1 _ _
    subst e1
    simp [Value.ownBlock] at e
    subst e
    exact ⟨rfl, lt_of_block hg⟩
theorem own_block2 {w : World} {B : Nat} {A : Option Addr} {n c : Nat} {l : List Int} (h : OwnB w B A n c l) (g : Nat) (e : A = some ⟨g, 0, none⟩) : (Value.slice A n c).ownBlock = some g := by
  subst e
  simp [Value.ownBlock]

theorem ulay_any (B p : Nat) (A : Option Addr) (n c : Nat) (ls : List (List Int)) (A1 : Option Addr) (n1 c1 : Nat) (l : List Int) (T : Nat) (w : World) (hn : n ≤ 1000) (hp : p < B) (hB : B ≤ w.heap.size)
    (hbox : Box w p 22 (.slice A1 n1 c1)) (hown : OwnB w B A1 n1 c1 l) (h : ∀ w', But (fun k => k = p ∨ A1 = some ⟨k, 0, none⟩) w w' → RdL w' A n ls) (hT : ls.flatten.length = T) (hm : n1 + T ≤ 100000) :
    Calls Try.prog 40 #[.slice A n c, .pointer (some ⟨p, 0, none⟩)] w (LaidU p B A1 (n1 + T) (l ++ ls.flatten) w) := by
  have Hlen := Lib.hid (h w (But.refl _ _)).len
  have HT := Lib.hid hT
  have Hh := Lib.hid h
  have Hown := Lib.hid hown
  have Hbox := Lib.hid hbox
  clear h hT hown hbox
  go_enter Try.func40, Try.ntmps40
  go_wp2_with fail
  go_loopg [7] n (fun gk i wr => ∃ (j m : Nat) (A2 : Option Addr) (c2 : Nat), Hid (gk + j = n) ∧ j ≤ n ∧ i = .int .i64 (j : Int) ∧ m ≤ 100000 ∧ Hid (Box wr p 22 (.slice A2 m c2)) ∧ Hid (OwnB wr B A2 m c2 (l ++ (ls.take j).flatten)) ∧ Hid (But (fun k => k = p ∨ A1 = some ⟨k, 0, none⟩) w wr) ∧ Hid (∀ g, A2 = some ⟨g, 0, none⟩ → g < w.heap.size → A1 = some ⟨g, 0, none⟩))
  case atStart => exact ⟨0, n1, A1, c1, rfl, Nat.zero_le _, rfl, by omega, Hbox, by simpa using Hown, Lib.hid (But.refl _ _), Lib.hid (fun _ e _ => e)⟩
  case round =>
    obtain ⟨j, m, A2, c2, hgk, hj, rfl, hmj, hbx, hown, hb, hA⟩ := hrel
    by_cases hlt : j < n
    · have hf := flat_take ls j (by rw [Hlen.out]; exact hlt)
      obtain ⟨q, Ai, ci, hrunq, hqb, hcq, hci, hcm, hri⟩ := (Hh.out wr hb.out).index (c := c) hlt
      have hsum : m + (ls.getD j []).length ≤ 100000 := by
        have h1 := hown.out.len
        have h3 := flat_len_le ls (j + 1)
        rw [List.length_append] at h1
        rw [hf, List.length_append] at h3
        have := HT.out
        have := Hown.out.len
        omega
      have Hf := Lib.hid (show (l ++ (ls.take j).flatten) ++ ls.getD j [] = l ++ (ls.take (j + 1)).flatten by rw [hf, List.append_assoc])
      have hpc := hbx.out.cell
      have Hbs := Lib.hid (show B ≤ wr.heap.size from Nat.le_trans hB hb.out.size)
      obtain ⟨k, ek⟩ : ∃ k, (ls.getD j []).length = k := ⟨_, rfl⟩
      rw [ek] at hcq hsum hri hci
      have Hri := Lib.hid hri
      clear hri hci hf ek
      go_wp2_with (refine wpList_app rfl (.tmp 11) (.tmp 12) rfl B A2 Ai m c2 k ci _ _ rfl rfl hown.out Hri.out (by omega) Hbs.out ?_; intro A3 c3 w3 hown3 hg3 hb3 hat3; have hbx3 := hbx.out.below hb3 hp; have hf3 := hbx3.free; have hc3 := hbx3.cell)
      rw [Hf.out] at hown3
      have hB3 : But (fun k => k = p ∨ A1 = some ⟨k, 0, none⟩) w w3 := by
        refine ⟨hg3.os.trans hb.out.os, hg3.tape.trans hb.out.tape, hg3.output.trans hb.out.output, Nat.le_trans hb.out.size hg3.size, fun k hk hS => ?_⟩
        rw [hg3.block k (Nat.lt_of_lt_of_le hk hb.out.size) (fun e => hS (.inr (hA.out k (own_block hown.out k e.symm).1 hk)))]
        exact hb.out.block k hk hS
      have hA3 : ∀ g, A3 = some ⟨g, 0, none⟩ → g < w.heap.size → A1 = some ⟨g, 0, none⟩ := by
        intro g e hg
        have e2 := own_block2 hown3 g e
        rcases hat3 with h1 | h1
        · rw [h1] at e2
          exact hA.out g (own_block hown.out g e2).1 hg
        · rw [h1] at e2
          injection e2 with e2
          have := hb.out.size
          omega
      have Hbx4 := Lib.hid (hbx3.set_ (.slice A3 (m + k) c3))
      have Hown4 := Lib.hid (hown3.but ((But.refl (fun k => k = p) w3).setCell (p := ⟨p, 0, none⟩) rfl (.slice A3 (m + k) c3)) (fun k hk e => by omega))
      have Hb4 := Lib.hid (hB3.setCell (p := ⟨p, 0, none⟩) (.inl rfl) (.slice A3 (m + k) c3))
      have HA3 := Lib.hid hA3
      clear hown3 hg3 hb3 hat3 hbx3 hB3 hA3 hf3 hc3
      go_roundg (gk - 1)
      case measure => have := hgk.out; omega
      case rel => exact ⟨j + 1, m + k, A3, c3, by have := hgk.out; show gk - 1 + (j + 1) = _; omega, by omega, by go_num, hsum, Hbx4, Hown4, Hb4, HA3⟩
    · obtain rfl : j = n := by omega
      have ho := hown.out
      rw [List.take_of_length_le (by rw [Hlen.out]; exact Nat.le_refl _)] at ho
      have hmT : m = n1 + T := by
        have h1 := ho.len
        rw [List.length_append] at h1
        have := HT.out
        have := Hown.out.len
        omega
      subst hmT
      have Ho := Lib.hid ho
      clear ho
      go_wp2_with fail
      go_end0
      exact ⟨rfl, ⟨A2, c2, hbx.out, Ho.out⟩, hb.out⟩
end Go.Proofs.Ytoegfgbalcholaa

/-
  The contract of package udp's Put.
-/
namespace Go.Proofs.Ytoegfgbalcholaa
set_option maxRecDepth 10000
open Go.RowKit

/-- A row of slices that the walk has just laid, in a world in which nothing but S has turned since. -/
theorem RdL.rowBut {S : Nat → Prop} (w w' : World) (g : Nat) (hg : w.heap.size = g) (t : TypeId) (vs : List Value) (ls : List (List Int)) (n : Nat) (hn : ls.length = n) (hb : But S (w.alloc (.cells vs.toArray t)) w') (hS : ¬ S g)
    (h : ∀ i, i < n → ∃ Ai ci, vs[i]? = some (.slice Ai (ls.getD i []).length ci) ∧ (ls.getD i []).length ≤ ci ∧ ci ≤ maxLen ∧ Rd w Ai (ls.getD i []).length (ls.getD i []) ∧ ∀ k o, Ai = some ⟨k, o, none⟩ → 0 < (ls.getD i []).length → ¬ S k) :
    RdL w' (some ⟨g, 0, none⟩) n ls := by
  subst hg; subst hn
  refine ⟨rfl, fun _ => ⟨w.heap.size, 0, rfl, hb.lt (by simp), fun i hi => ?_⟩⟩
  obtain ⟨Ai, ci, h1, h2, h3, h4, h5⟩ := h i hi
  refine ⟨Ai, ci, ?_, h2, h3, (h4.below ((Below.refl _ _).alloc (Nat.le_refl _) _)).but hb h5⟩
  rw [hb.cell (p := ⟨w.heap.size, 0 + i, none⟩) (by simp) hS, World.cell?_alloc_mark]
  simpa using h1
theorem RdL.threeBut {S : Nat → Prop} (w w' : World) (g : Nat) (hg : w.heap.size = g) (t : TypeId) (A B C : Option Addr) (n c n1 c1 n2 c2 : Nat) (l l1 l2 : List Int) (hb : But S (w.alloc (.cells #[.slice A n c, .slice B n1 c1, .slice C n2 c2] t)) w') (hS : ¬ S g)
    (hc : n ≤ c ∧ c ≤ maxLen) (hc1 : n1 ≤ c1 ∧ c1 ≤ maxLen) (hc2 : n2 ≤ c2 ∧ c2 ≤ maxLen) (h : Rd w A n l) (h1 : Rd w B n1 l1) (h2 : Rd w C n2 l2) (s : ∀ k o, A = some ⟨k, o, none⟩ → ¬ S k) (s1 : ∀ k o, B = some ⟨k, o, none⟩ → ¬ S k) (s2 : ∀ k o, C = some ⟨k, o, none⟩ → ¬ S k) :
    RdL w' (some ⟨g, 0, none⟩) 3 [l, l1, l2] := by
  have := h.len; have := h1.len; have := h2.len
  subst n n1 n2
  refine RdL.rowBut w w' g hg t [.slice A l.length c, .slice B l1.length c1, .slice C l2.length c2] _ 3 rfl hb hS (fun i hi => ?_)
  match i, hi with
  | 0, _ => exact ⟨A, c, rfl, hc.1, hc.2, h, fun k o e _ => s k o e⟩
  | 1, _ => exact ⟨B, c1, rfl, hc1.1, hc1.2, h1, fun k o e _ => s1 k o e⟩
  | 2, _ => exact ⟨C, c2, rfl, hc2.1, hc2.2, h2, fun k o e _ => s2 k o e⟩
theorem RdL.twoBut {S : Nat → Prop} (w w' : World) (g : Nat) (hg : w.heap.size = g) (t : TypeId) (A B : Option Addr) (n c n1 c1 : Nat) (l l1 : List Int) (hb : But S (w.alloc (.cells #[.slice A n c, .slice B n1 c1] t)) w') (hS : ¬ S g)
    (hc : n ≤ c ∧ c ≤ maxLen) (hc1 : n1 ≤ c1 ∧ c1 ≤ maxLen) (h : Rd w A n l) (h1 : Rd w B n1 l1) (s : ∀ k o, A = some ⟨k, o, none⟩ → ¬ S k) (s1 : ∀ k o, B = some ⟨k, o, none⟩ → 0 < n1 → ¬ S k) :
    RdL w' (some ⟨g, 0, none⟩) 2 [l, l1] := by
  have := h.len; have := h1.len
  subst n n1
  refine RdL.rowBut w w' g hg t [.slice A l.length c, .slice B l1.length c1] _ 2 rfl hb hS (fun i hi => ?_)
  match i, hi with
  | 0, _ => exact ⟨A, c, rfl, hc.1, hc.2, h, fun k o e _ => s k o e⟩
  | 1, _ => exact ⟨B, c1, rfl, hc1.1, hc1.2, h1, fun k o e h0 => s1 k o e h0⟩
theorem RdL.threeU (w : World) (g : Nat) (hg : w.heap.size = g) (t : TypeId) (A B C : Option Addr) (n c n1 c1 n2 c2 : Nat) (l l1 l2 : List Int)
    (hc : n ≤ c ∧ c ≤ maxLen) (hc1 : n1 ≤ c1 ∧ c1 ≤ maxLen) (hc2 : n2 ≤ c2 ∧ c2 ≤ maxLen) (h : Rd w A n l) (h1 : Rd w B n1 l1) (h2 : Rd w C n2 l2) :
    RdL (w.alloc (.cells #[.slice A n c, .slice B n1 c1, .slice C n2 c2] t)) (some ⟨g, 0, none⟩) 3 [l, l1, l2] :=
  RdL.threeBut (S := fun _ => False) w _ g hg t A B C n c n1 c1 n2 c2 l l1 l2 (But.refl _ _) (fun h => h) hc hc1 hc2 h h1 h2 (fun _ _ _ h => h) (fun _ _ _ h => h) (fun _ _ _ h => h)

def UPutOk (m : Nat) (l : List Int) (w : World) (e : Ending) (w' : World) : Prop :=
  ∃ A c, e = .returned (.tuple #[.slice A m c, .int .i64 0]) ∧ m ≤ c ∧ c ≤ maxLen ∧ OwnB w' w.heap.size A m c l ∧ Below w.heap.size w w'

theorem cells3 {w : World} {g : Nat} {u0 u1 u2 : Value} {t : TypeId} (h : w.heap[g]? = some (.cells #[u0, u1, u2] t (0, 0))) : w.cell? ⟨g, 0, none⟩ = some u0 ∧ w.cell? ⟨g, 1, none⟩ = some u1 ∧ w.cell? ⟨g, 2, none⟩ = some u2 := ⟨by rw [blk_cell h]; rfl, by rw [blk_cell h]; rfl, by rw [blk_cell h]; rfl⟩
theorem apt {A : Option Addr} {B m p : Nat} (h : ∃ g, A = some ⟨g, 0, none⟩ ∧ B ≤ g ∧ g < m) (hp : p < B) : ∀ k o, A = some ⟨k, o, none⟩ → ¬ (k = p ∨ none = some (⟨k, 0, none⟩ : Addr)) := by
  obtain ⟨g, rfl, h1, _⟩ := h
  intro k o e hh
  injection e with e
  injection e with e _
  rcases hh with hh | hh
  · omega
  · cases hh

theorem uput_ok (src dst : Int) (s : Dg) (A : Option Addr) (n c : Nat) (w : World) (hnum : DgNum s) (hc : n ≤ c ∧ c ≤ maxLen) (hr : Rd w A n s.d) (hn : n ≤ 1472) :
    Calls Try.prog 22 #[.int .u32 src, .int .u32 dst, .agg #[.int .u16 s.sp, .int .u16 s.dp, .slice A n c]] w (UPutOk (8 + n) (dgB src dst s) w) := by
  have hmf : ∀ (fn : Fn) (first cap : Array Value) (w : World), (Instr.makeFunc fn first cap).run Try.prog w = .ok (.func fn first cap) w := fun _ _ _ _ => rfl
  obtain ⟨sp, dp, d⟩ := s
  simp only at hr ⊢
  have hni : (n : Int) ≤ 1472 := by omega
  have hlen := hr.len
  obtain ⟨z, hz⟩ : ∃ z, w.heap.size = z := ⟨_, rfl⟩
  have hk := heap_alloc_new w (.cells #[.int .u16 sp, .int .u16 dp, .slice A n c] 48)
  have hx := Box.new (w.alloc (.cells #[.int .u16 sp, .int .u16 dp, .slice A n c] 48)) 22 (.slice none 0 0)
  have hb0 := ((Below.refl w.heap.size w).alloc (Nat.le_refl _) (.cells #[.int .u16 sp, .int .u16 dp, .slice A n c] 48)).alloc (by simp) (.cells #[.slice none 0 0] 22)
  have hk1 := (Below.heap_alloc _ (.cells #[.slice none 0 0] 22) _ (lt_of_block hk)).trans hk
  obtain ⟨w1, ew1⟩ : ∃ w1, ((w.alloc (.cells #[.int .u16 sp, .int .u16 dp, .slice A n c] 48)).alloc (.cells #[.slice none 0 0] 22)) = w1 := ⟨_, rfl⟩
  have hs1 : w1.heap.size = z + 2 := by rw [← ew1, ← hz]; simp
  have hx1 : Box w1 (z + 1) 22 (.slice none 0 0) := by rw [← ew1, ← hz]; simpa using hx
  rw [ew1] at hb0 hk1
  rw [hz] at hk1
  have Hk0 := Lib.hid hk1
  have Hx0 := Lib.hid hx1
  have Hb0 := Lib.hid hb0
  have Hd0 := Lib.hid (hr.below hb0)
  have Hdz := Lib.hid (show ∀ k o, A = some ⟨k, o, none⟩ → 0 < n → k < z from fun k o e h0 => by
    obtain ⟨b, o', e', hlt, _⟩ := hr.at_ h0
    rw [e] at e'; injection e' with e'; injection e' with e' _; omega)
  have Hc := Lib.hid hc
  have Hnum := Lib.hid hnum
  have Hlen := Lib.hid hlen
  have Hs1 := Lib.hid hs1
  have Hz := Lib.hid hz
  have hw16 : IntKind.u16.wrap (8 + (n : Int)) = 8 + (n : Int) := by simp [IntKind.wrap, IntKind.bits, IntKind.signed]; omega
  have Hlg := Lib.hid (show 0 ≤ 8 + (n : Int) ∧ 8 + (n : Int) < 65536 by omega)
  clear hk hx hb0 hk1 hx1 hr hc hnum hlen hs1
  go_enter Try.func22, Try.ntmps22
  obtain ⟨q0, q1, q2⟩ := cells3 Hk0.out
  go_wp2_with fail
  refine wp_region_held_drew (S := fun w' => w'.cell? ⟨z, 0, none⟩ = some (.int .u16 sp) ∧ w'.cell? ⟨z, 1, none⟩ = some (.int .u16 dp) ∧ w'.cell? ⟨z, 2, none⟩ = some (.slice A n c)) (by kernel_rfl) (cells3 Hk0.out) (fun hHeld => ?_)
  have hdr : Below w1.heap.size w1 w1.drew := Below.drew (Below.refl _ _)
  have Hk1 := Lib.hid (blk_on Hk0.out hdr)
  have Hx1 := Lib.hid (Hx0.out.below hdr (by have := Hs1.out; omega))
  have Hd1 := Lib.hid (Hd0.out.below hdr)
  have Hb1 := Lib.hid (below_trans Hb0.out hdr)
  have Hs1 := Lib.hid (show w1.drew.heap.size = z + 2 from Hs1.out)
  clear hdr q0 q1 q2
  obtain ⟨wd, ewd⟩ : ∃ wd, w1.drew = wd := ⟨_, rfl⟩
  rw [ewd] at Hk1 Hx1 Hd1 Hb1 Hs1 hHeld ⊢
  clear ewd
  refine tk 0 ?_ rfl ?_ ?_
  rotate_left
  · intro w' hSw; (go_simp <;> (with_reducible rfl))
  try simp only [Act.put, putL]
  refine tk 1 ?_ rfl ?_ ?_
  rotate_left
  · intro w' hSw; (go_simp <;> (with_reducible rfl))
  try simp only [Act.put, putL]
  refine tk 2 ?_ rfl ?_ ?_
  rotate_left
  · intro w' hSw; (go_simp <;> (with_reducible rfl))
  try simp only [Act.put, putL]
  refine tk 4 ?_ rfl ?_ ?_
  rotate_left
  · intro w' hSw; (go_simp <;> (with_reducible rfl))
  try simp only [Act.put, putL]
  refine tk 5 ?_ rfl ?_ ?_
  rotate_left
  · intro w' hSw; (go_simp <;> (with_reducible rfl))
  try simp only [Act.put, putL]
  refine tk 7 ?_ rfl ?_ ?_
  rotate_left
  · intro w' hSw; (go_simp <;> (with_reducible rfl))
  try simp only [Act.put, putL]
  refine tk 8 ?_ rfl ?_ ?_
  rotate_left
  · intro w' hSw; (go_simp <;> (with_reducible rfl))
  try simp only [Act.put, putL]
  refine tkC 3 rfl (fun K hK => ?_)
  go_simp
  (go_at_call 41; refine (word_row sp _ Hnum.out.sp).mono ?_; rintro e w2 ⟨A2, c2, rfl, k2, m2, ho2, hb2⟩; have Hr2 := Lib.hid (ho2.rd (be16_bytes Hnum.out.sp)); have Hs2 := Lib.hid (ho2.addr (by omega)); have Hk2 := Lib.hid (blk_on Hk1.out hb2); have Hb2 := Lib.hid hb2; clear ho2 hb2)
  refine hK.out _ _ ?_ (fun hHeld => ?_)
  · exact cells3 Hk2.out
  clear hK K
  try simp only [Act.put, putL]
  refine tkC 6 rfl (fun K hK => ?_)
  go_simp
  (go_at_call 41; refine (word_row dp _ Hnum.out.dp).mono ?_; rintro e w3 ⟨A3, c3, rfl, k3, m3, ho3, hb3⟩; have Hr3 := Lib.hid (ho3.rd (be16_bytes Hnum.out.dp)); have Hs3 := Lib.hid (ho3.addr (by omega)); have Hk3 := Lib.hid (blk_on Hk2.out hb3); have Hb3 := Lib.hid hb3; clear ho3 hb3)
  refine hK.out _ _ ?_ (fun hHeld => ?_)
  · exact cells3 Hk3.out
  clear hK K
  try simp only [Act.put, putL]
  refine tkC 9 rfl (fun K hK => ?_)
  go_simp
  (go_at_call 41; refine (word_row (8 + (n : Int)) _ Hlg.out).mono ?_; rintro e w4 ⟨A4, c4, rfl, k4, m4, ho4, hb4⟩; have Hr4 := Lib.hid (ho4.rd (be16_bytes Hlg.out)); have Hs4 := Lib.hid (ho4.addr (by omega)); have Hk4 := Lib.hid (blk_on Hk3.out hb4); have Hb4 := Lib.hid hb4; clear ho4 hb4)
  refine hK.out _ _ ?_ (fun hHeld => ?_)
  · exact cells3 Hk4.out
  clear hK K
  try simp only [Act.put, putL]
  refine tkC 10 rfl (fun K hK => ?_)
  go_simp
  skip
  refine hK.out _ _ ?_ (fun hHeld => ?_)
  · exact cells3 (blk_on Hk4.out ((Below.refl _ _).alloc (Nat.le_refl _) _))
  clear hK K
  try simp only [Act.put, putL]
  refine tkC 11 rfl (fun K hK => ?_)
  go_simp
  (go_at_call 40; refine (ulay_any (z + 2) (z + 1) _ 3 3 [be16 sp, be16 dp, be16 (8 + (n : Int))] none 0 0 [] 6 _ (by omega) (by omega) (by have := Hs1.out; have := Hb2.out.size; have := Hb3.out.size; have := Hb4.out.size; simp; omega) (((((Hx1.out.below Hb2.out (by have := Hs1.out; omega)).below Hb3.out (by have := Hs1.out; have := Hb2.out.size; omega)).below Hb4.out (by have := Hs1.out; have := Hb2.out.size; have := Hb3.out.size; omega))).alloc _) (OwnB.nil _ _) (fun w' hb => RdL.threeBut w4 w' _ rfl 22 A2 A3 A4 2 c2 2 c3 2 c4 _ _ _ hb (by have := Hs1.out; have := Hb2.out.size; have := Hb3.out.size; have := Hb4.out.size; simp; omega) ⟨k2, m2⟩ ⟨k3, m3⟩ ⟨k4, m4⟩ ((Hr2.out.below Hb3.out).below Hb4.out) (Hr3.out.below Hb4.out) Hr4.out (apt Hs2.out (by have := Hs1.out; omega)) (apt Hs3.out (by have := Hs1.out; have := Hb2.out.size; omega)) (apt Hs4.out (by have := Hs1.out; have := Hb2.out.size; have := Hb3.out.size; omega))) (by simp [be16]) (by omega)).mono ?_; rintro e w5 ⟨rfl, ⟨A5, c5, hx5, ho5⟩, hb5⟩; have Hk5 := Lib.hid (hb5.blk (blk_on Hk4.out ((Below.refl _ _).alloc (Nat.le_refl _) _)) (by simp)); have Hx5 := Lib.hid hx5; have Ho5 := Lib.hid ho5; have Hb5 := Lib.hid hb5; clear hx5 ho5 hb5)
  refine hK.out _ _ ?_ (fun hHeld => ?_)
  · exact cells3 Hk5.out
  clear hK K
  try simp only [Act.put, putL]
  refine wpAnyH_done (by kernel_rfl) ?_ _
  have Hsz := Lib.hid (show z + 2 ≤ w4.heap.size by have := Hs1.out; have := Hb2.out.size; have := Hb3.out.size; have := Hb4.out.size; omega)
  have Hba := Lib.hid (below_trans Hb1.out (below_trans Hb2.out (below_trans Hb3.out (below_trans Hb4.out ((Below.refl _ _).alloc (Nat.le_refl _) (.cells #[.slice A2 2 c2, .slice A3 2 c3, .slice A4 2 c4] 22))))))
  have Hd5 := Lib.hid ((((((Hd1.out.below Hb2.out).below Hb3.out).below Hb4.out).below ((Below.refl _ _).alloc (Nat.le_refl _) (.cells #[.slice A2 2 c2, .slice A3 2 c3, .slice A4 2 c4] 22))).but Hb5.out (fun g o e h0 hh => by
    have := Hdz.out g o e h0
    rcases hh with hh | hh
    · omega
    · cases hh)))
  have Hbw := Lib.hid (Hba.out.trans (Hb5.out.below (B := w.heap.size) (fun k hk => by
    have := Hz.out
    rcases hk with hk | hk
    · omega
    · cases hk) (by have := Hsz.out; have := Hz.out; simp; omega)))
  have hf : ([] ++ [be16 sp, be16 dp, be16 (8 + (n : Int))].flatten : List Int) = hdU ⟨sp, dp, d⟩ := by simp [hdU, Hlen.out]
  rw [hf, show 0 + 6 = 6 from rfl] at Ho5
  rw [show 0 + 6 = 6 from rfl] at Hx5
  have Hr5 := Lib.hid (Ho5.out.rd (hdU_bytes Hnum.out (by have := Hlen.out; show d.length ≤ 1472; omega)))
  have Hc5 := Lib.hid (And.intro Ho5.out.cap Ho5.out.capMax)
  have Hs5 := Lib.hid (show z + 2 ≤ w5.heap.size by have := Hsz.out; have := Hb5.out.size; simp at this; omega)
  obtain ⟨fd, efd⟩ : ∃ fd, fieldU src dst ⟨sp, dp, d⟩ = fd := ⟨_, rfl⟩
  have Hfdb := Lib.hid (show 0 ≤ fd ∧ fd < 65536 by rw [← efd]; have : 0 < fieldU src dst ⟨sp, dp, d⟩ ∧ fieldU src dst ⟨sp, dp, d⟩ < 65536 := fldU_bd _; omega)
  have Hfd := Lib.hid (show fldU ([pseudoL src dst 17 (8 + (n : Int)), hdU ⟨sp, dp, d⟩, d] : List (List Int)).flatten = fd by rw [← efd]; unfold fieldU; rw [Hlen.out]; simp)
  have Efd := Lib.hid efd
  clear efd hf Hk1 Hk2 Hk3 Hk4 Hx1 Hd1 Hb1 Hs1 Hs2 Hs3 Hs4 Hr2 Hr3 Hr4 Hb2 Hb3 Hb4 Hb5 Hba Hsz hHeld k2 m2 k3 m3 k4 m4
  obtain ⟨A5v, eA5⟩ : ∃ A5v, A5 = A5v := ⟨_, rfl⟩
  subst eA5
  go_wp2_with fail
  refine wp_region_held_drew (S := fun w' => w'.cell? ⟨z, 0, none⟩ = some (.int .u16 sp) ∧ w'.cell? ⟨z, 1, none⟩ = some (.int .u16 dp) ∧ w'.cell? ⟨z, 2, none⟩ = some (.slice A n c) ∧ w'.cell? ⟨z + 1, 0, none⟩ = some (.slice A5 6 c5)) (by kernel_rfl) ⟨(cells3 Hk5.out).1, (cells3 Hk5.out).2.1, (cells3 Hk5.out).2.2, Box.cell Hx5.out⟩ (fun hHeld => ?_)
  have hdr : Below w5.heap.size w5 w5.drew := Below.drew (Below.refl _ _)
  have Hk5 := Lib.hid (blk_on Hk5.out hdr)
  have Hx5 := Lib.hid (blk_on Hx5.out hdr)
  have Ho5 := Lib.hid (Ho5.out.on hdr)
  have Hr5 := Lib.hid (Hr5.out.below hdr)
  have Hd5 := Lib.hid (Hd5.out.below hdr)
  have Hbw := Lib.hid (below_trans Hbw.out hdr)
  have Hs5 := Lib.hid (show z + 2 ≤ w5.drew.heap.size from Hs5.out)
  clear hdr
  obtain ⟨we, ewe⟩ : ∃ we, w5.drew = we := ⟨_, rfl⟩
  rw [ewe] at Hk5 Hx5 Ho5 Hr5 Hd5 Hbw Hs5 hHeld ⊢
  clear ewe
  refine tk 0 ?_ rfl ?_ ?_
  rotate_left
  · intro w' hSw; (go_simp <;> (with_reducible rfl))
  try simp only [Act.put, putL]
  refine tk 1 ?_ rfl ?_ ?_
  rotate_left
  · intro w' hSw; (go_simp <;> (with_reducible rfl))
  try simp only [Act.put, putL]
  refine tk 2 ?_ rfl ?_ ?_
  rotate_left
  · intro w' hSw; (go_simp <;> (with_reducible rfl))
  try simp only [Act.put, putL]
  refine tk 4 ?_ rfl ?_ ?_
  rotate_left
  · intro w' hSw; (go_simp <;> (with_reducible rfl))
  try simp only [Act.put, putL]
  refine tk 5 ?_ rfl ?_ ?_
  rotate_left
  · intro w' hSw; (go_simp <;> (with_reducible rfl))
  try simp only [Act.put, putL]
  refine tk 6 ?_ rfl ?_ ?_
  rotate_left
  · intro w' hSw; (go_simp <;> (with_reducible rfl))
  try simp only [Act.put, putL]
  refine tkC 3 rfl (fun K hK => ?_)
  go_simp
  (go_at_call 43; refine (pseudo_any src dst 17 (8 + (n : Int)) _ (by omega)).mono ?_; rintro e w6 ⟨A6, c6, rfl, k6, m6, ho6, hb6⟩; have Hr6 := Lib.hid (ho6.rd (pseudo_byte _ _ _ _ (by omega))); have Hk6 := Lib.hid (blk_on Hk5.out hb6); have Hx6 := Lib.hid (blk_on Hx5.out hb6); have Hb6 := Lib.hid hb6; clear ho6 hb6)
  refine hK.out _ _ ?_ (fun hHeld => ?_)
  · exact ⟨(cells3 Hk6.out).1, (cells3 Hk6.out).2.1, (cells3 Hk6.out).2.2, Box.cell Hx6.out⟩
  clear hK K
  try simp only [Act.put, putL]
  refine tkC 7 rfl (fun K hK => ?_)
  go_simp
  skip
  refine hK.out _ _ ?_ (fun hHeld => ?_)
  · exact ⟨(cells3 (blk_on Hk6.out ((Below.refl _ _).alloc (Nat.le_refl _) _))).1, (cells3 (blk_on Hk6.out ((Below.refl _ _).alloc (Nat.le_refl _) _))).2.1, (cells3 (blk_on Hk6.out ((Below.refl _ _).alloc (Nat.le_refl _) _))).2.2, Box.cell (Box.alloc Hx6.out _)⟩
  clear hK K
  try simp only [Act.put, putL]
  refine tkC 8 rfl (fun K hK => ?_)
  go_simp
  (go_at_call 42; refine (fieldof_any _ 3 3 [pseudoL src dst 17 (8 + (n : Int)), hdU ⟨sp, dp, d⟩, d] _ fd (by omega) (RdL.threeU w6 _ rfl 22 A6 A5 A 12 c6 6 c5 n c _ _ _ ⟨k6, m6⟩ Hc5.out Hc.out Hr6.out (Hr5.out.below Hb6.out) (Hd5.out.below Hb6.out)) Hfd.out).mono ?_; rintro e w7 ⟨rfl, hb7⟩; have Hbb7 := Lib.hid (on_alloc hb7); have Hk7 := Lib.hid (blk_on Hk6.out Hbb7.out); have Hx7 := Lib.hid (blk_on Hx6.out Hbb7.out); clear hb7)
  refine hK.out _ _ ?_ (fun hHeld => ?_)
  · exact ⟨(cells3 Hk7.out).1, (cells3 Hk7.out).2.1, (cells3 Hk7.out).2.2, Box.cell Hx7.out⟩
  clear hK K
  try simp only [Act.put, putL]
  refine tk 9 ?_ rfl ?_ ?_
  rotate_left
  · intro w' hSw; (go_simp <;> (with_reducible rfl))
  try simp only [Act.put, putL]
  refine wpAnyH_done (by kernel_rfl) ?_ _
  have Hs7 := Lib.hid (show z + 2 ≤ w7.heap.size by have := Hs5.out; have := Hb6.out.size; have := Hbb7.out.size; omega)
  have Hd7 := Lib.hid ((Hd5.out.below Hb6.out).below Hbb7.out)
  have Ho7 := Lib.hid ((Ho5.out.on Hb6.out).on Hbb7.out)
  have Hb7 := Lib.hid (below_trans Hbw.out (below_trans Hb6.out Hbb7.out))
  clear Hk5 Hx5 Hd5 Hs5 Ho5 Hbw Hk6 Hx6 Hb6 Hbb7 Hr5 Hr6 hHeld k6 m6
  go_wp2_with fail
  refine wp_region_held_drew (S := fun w' => w'.cell? ⟨z, 0, none⟩ = some (.int .u16 sp) ∧ w'.cell? ⟨z, 1, none⟩ = some (.int .u16 dp) ∧ w'.cell? ⟨z, 2, none⟩ = some (.slice A n c)) (by kernel_rfl) (cells3 Hk7.out) (fun hHeld => ?_)
  have hdr : Below w7.heap.size w7 w7.drew := Below.drew (Below.refl _ _)
  have Hk7 := Lib.hid (blk_on Hk7.out hdr)
  have Hx7 := Lib.hid (blk_on Hx7.out hdr)
  have Ho7 := Lib.hid (Ho7.out.on hdr)
  have Hd7 := Lib.hid (Hd7.out.below hdr)
  have Hb7 := Lib.hid (below_trans Hb7.out hdr)
  have Hs7 := Lib.hid (show z + 2 ≤ w7.drew.heap.size from Hs7.out)
  clear hdr
  obtain ⟨wf, ewf⟩ : ∃ wf, w7.drew = wf := ⟨_, rfl⟩
  rw [ewf] at Hk7 Hx7 Ho7 Hd7 Hb7 Hs7 hHeld ⊢
  clear ewf
  have Ha7 := Lib.hid (Ho7.out.addr (by omega))
  have Hg8 := Lib.hid (show ∀ k, wf.heap.size ≤ k → ¬ (k = z + 1 ∨ A5 = some ⟨k, 0, none⟩) from fun k hk hh => by
    have := Hs7.out
    rcases hh with hh | hh
    · omega
    · obtain ⟨g, e, _, _⟩ := Ha7.out; rw [e] at hh; injection hh with hh; injection hh with hh; omega)
  have Hg9 := Lib.hid (show ∀ k, k ≤ z → ¬ (k = z + 1 ∨ A5 = some ⟨k, 0, none⟩) from fun k hk hh => by
    rcases hh with hh | hh
    · omega
    · obtain ⟨g, e, _, _⟩ := Ha7.out; rw [e] at hh; injection hh with hh; injection hh with hh; omega)
  refine tk 0 ?_ rfl ?_ ?_
  rotate_left
  · intro w' hSw; (go_simp <;> (with_reducible rfl))
  try simp only [Act.put, putL]
  refine tk 1 ?_ rfl ?_ ?_
  rotate_left
  · intro w' hSw; (go_simp <;> (with_reducible rfl))
  try simp only [Act.put, putL]
  refine tk 3 ?_ rfl ?_ ?_
  rotate_left
  · intro w' hSw; (go_simp <;> (with_reducible rfl))
  try simp only [Act.put, putL]
  refine tk 4 ?_ rfl ?_ ?_
  rotate_left
  · intro w' hSw; (go_simp <;> (with_reducible rfl))
  try simp only [Act.put, putL]
  refine tkC 2 rfl (fun K hK => ?_)
  go_simp
  (go_at_call 41; refine (word_row fd _ Hfdb.out).mono ?_; rintro e w8 ⟨A8, c8, rfl, k8, m8, ho8, hb8⟩; have Hr8 := Lib.hid (ho8.rd (be16_bytes Hfdb.out)); have Hs8 := Lib.hid (ho8.addr (by omega)); have Hk8 := Lib.hid (blk_on Hk7.out hb8); have Hx8 := Lib.hid (blk_on Hx7.out hb8); have Hb8 := Lib.hid hb8; clear ho8 hb8)
  refine hK.out _ _ ?_ (fun hHeld => ?_)
  · exact cells3 Hk8.out
  clear hK K
  try simp only [Act.put, putL]
  refine tkC 5 rfl (fun K hK => ?_)
  go_simp
  skip
  refine hK.out _ _ ?_ (fun hHeld => ?_)
  · exact cells3 (blk_on Hk8.out ((Below.refl _ _).alloc (Nat.le_refl _) _))
  clear hK K
  try simp only [Act.put, putL]
  refine tkC 6 rfl (fun K hK => ?_)
  go_simp
  (go_at_call 40; refine (ulay_any (z + 2) (z + 1) _ 2 2 [be16 fd, d] A5 6 c5 (hdU ⟨sp, dp, d⟩) (2 + n) _ (by omega) (by omega) (by have := Hs7.out; have := Hb8.out.size; simp; omega) (Box.alloc Hx8.out _) ((Ho7.out.on Hb8.out).alloc _) (fun w' hb => RdL.twoBut w8 w' _ rfl 22 A8 A 2 c8 n c _ _ hb (Hg8.out _ (by have := Hb8.out.size; omega)) ⟨k8, m8⟩ Hc.out Hr8.out (Hd7.out.below Hb8.out) (fun k o e => Hg8.out k (by obtain ⟨g8, e8, h8, _⟩ := Hs8.out; rw [e8] at e; injection e with e; injection e with e; omega)) (fun k o e h0 => Hg9.out k (Nat.le_of_lt (Hdz.out k o e h0)))) (by have := Hlen.out; simp [be16]; omega) (by omega)).mono ?_; rintro e w9 ⟨rfl, ⟨A9, c9, hx9, ho9⟩, hb9⟩; have Hk9 := Lib.hid (hb9.blk (blk_on Hk8.out ((Below.refl _ _).alloc (Nat.le_refl _) _)) (Hg9.out z (by omega))); have Hx9 := Lib.hid hx9; have Ho9 := Lib.hid ho9; have Hb9 := Lib.hid hb9; clear hx9 ho9 hb9)
  refine hK.out _ _ ?_ (fun hHeld => ?_)
  · exact cells3 Hk9.out
  clear hK K
  try simp only [Act.put, putL]
  refine wpAnyH_done (by kernel_rfl) ?_ _
  have hx9 := Box.cell Hx9.out
  have hl9 : (hdU ⟨sp, dp, d⟩ ++ [be16 fd, d].flatten : List Int) = dgB src dst ⟨sp, dp, d⟩ := by unfold dgB; rw [Efd.out]; simp
  rw [hl9, show 6 + (2 + n) = 8 + n by omega] at Ho9
  rw [show 6 + (2 + n) = 8 + n by omega] at Hx9
  rw [show 6 + (2 + n) = 8 + n by omega] at hx9
  have Hbz := Lib.hid ((below_trans Hb7.out (below_trans Hb8.out ((Below.refl _ _).alloc (Nat.le_refl _) (.cells #[.slice A8 2 c8, .slice A n c] 22)))).trans (Hb9.out.below (B := w.heap.size) (fun k hk => by
    have := Hz.out
    rcases hk with hk | hk
    · omega
    · obtain ⟨g, e, _, _⟩ := Ha7.out; rw [e] at hk; injection hk with hk; injection hk with hk; omega) (by have := Hs7.out; have := Hb8.out.size; have := Hz.out; simp; omega)))
  clear Hk7 Hx7 Ho7 Hd7 Hb7 Hs7 Ha7 Hg8 Hg9 Hk8 Hx8 Hb8 Hs8 Hr8 k8 m8 Hb9 Hk9 Hx9 hHeld hl9
  go_wp2_with fail
  go_ret2
  exact ⟨A9, c9, rfl, Ho9.out.cap, Ho9.out.capMax, Ho9.out.mono (by have := Hz.out; omega), Hbz.out⟩
theorem uput_told (src dst sp dp : Int) (d : List Int) (A : Option Addr) (n c m : Nat) (L : List Int) (w : World) (hnum : DgNum ⟨sp, dp, d⟩) (hc : n ≤ c ∧ c ≤ maxLen) (hr : Rd w A n d) (hn : n ≤ 1472) (hm : m = 8 + n) (hL : dgB src dst ⟨sp, dp, d⟩ = L) :
    Calls Try.prog 22 #[.int .u32 src, .int .u32 dst, .agg #[.int .u16 sp, .int .u16 dp, .slice A n c]] w (UPutOk m L w) := by
  subst hm; subst hL; exact uput_ok src dst ⟨sp, dp, d⟩ A n c w hnum hc hr hn
end Go.Proofs.Ytoegfgbalcholaa

/-
  The contracts of package ipv4's May, lay and Put.
-/
namespace Go.Proofs.Ytoegfgbalcholaa
set_option maxRecDepth 10000
open Go.RowKit

theorem wraps_u8 (n : Int) (h₀ : 0 ≤ n) (h₁ : n < 2 ^ 8) : IntKind.u8.wrap n = n := by simp [IntKind.wrap, IntKind.bits, IntKind.signed]; omega

theorem may_any (tos id_ ttl proto src dst : Int) (df : Bool) (A : Option Addr) (n c : Nat) (w : World) :
    Calls Try.prog 33 #[(.agg #[.int .u8 tos, .int .u16 id_, .bool df, .int .u8 ttl, .int .u8 proto, .int .u32 src, .int .u32 dst, .slice A n c])] w (BoolIs (mayB ttl n) w) := by
  have hb := (Below.refl w.heap.size w).alloc (Nat.le_refl _) (.cells #[.int .u8 tos, .int .u16 id_, .bool df, .int .u8 ttl, .int .u8 proto, .int .u32 src, .int .u32 dst, .slice A n c] 43)
  have Hb := Lib.hid hb
  clear hb
  have fin : ∀ x y, x = y → BoolIs y w (.returned (.bool x)) (w.alloc (.cells #[.int .u8 tos, .int .u16 id_, .bool df, .int .u8 ttl, .int .u8 proto, .int .u32 src, .int .u32 dst, .slice A n c] 43)) := fun x y e => ⟨by rw [e], Hb.out⟩
  have Fin := Lib.hid fin
  clear fin
  obtain ⟨r, er⟩ : ∃ r, mayB ttl n = r := ⟨_, rfl⟩
  rw [er]
  have Er := Lib.hid er
  clear er
  by_cases h1 : 0 < ttl
  · by_cases h2 : (n : Int) ≤ 40
    · by_cases h3 : (n : Int) % 4 = 0
      · have h4 : ((n : Int) % 4 == 0) = true := by simpa using h3
        go_enter Try.func33, Try.ntmps33
        go_wp2_with fail
        go_ret
        exact Fin.out _ _ (by rw [← Er.out]; unfold mayB; simp [h1]; omega)
      · have h4 : ((n : Int) % 4 == 0) = false := by simpa using h3
        go_enter Try.func33, Try.ntmps33
        go_wp2_with fail
        go_ret
        exact Fin.out _ _ (by rw [← Er.out]; unfold mayB; simp [h1]; omega)
    · have h2' : 40 < (n : Int) := by omega
      go_enter Try.func33, Try.ntmps33
      go_wp2_with fail
      go_ret
      exact Fin.out _ _ (by rw [← Er.out]; unfold mayB; simp [h1]; omega)
  · have h1' : ttl ≤ 0 := by omega
    go_enter Try.func33, Try.ntmps33
    go_wp2_with fail
    go_ret
    exact Fin.out _ _ (by rw [← Er.out]; unfold mayB; simp; omega)

/-- Two rows of the call's own. -/
def RowsAre (n1 : Nat) (l1 : List Int) (n2 : Nat) (l2 : List Int) (w : World) (e : Ending) (w' : World) : Prop :=
  ∃ A1 c1 A2 c2, e = .returned (.tuple #[.slice A1 n1 c1, .slice A2 n2 c2]) ∧ OwnB w' w.heap.size A1 n1 c1 l1 ∧ OwnB w' w.heap.size A2 n2 c2 l2 ∧ Below w.heap.size w w'

/-- A row, told by its list alone. -/
theorem u8_lays_ (A : Option Addr) (n m c : Nat) (l : List Int) (x : Int) (w : World) (hx : 0 ≤ x ∧ x < 256) (hc : n ≤ c ∧ c ≤ maxLen) (hm : m = n + 1) (hl : n ≤ 100000) (h : Rd w A n l) :
    Calls Try.prog 67 #[.slice A n c, .int .u8 x] w (RowIs m (l ++ [x]) w) := by subst hm; exact u8_lays A n c l x w hx hc (by omega) h
theorem u16_lays_ (A : Option Addr) (n m c : Nat) (l : List Int) (x : Int) (w : World) (hx : 0 ≤ x ∧ x < 65536) (hc : n ≤ c ∧ c ≤ maxLen) (hm : m = n + 2) (hl : n ≤ 100000) (h : Rd w A n l) :
    Calls Try.prog 37 #[.slice A n c, .int .u16 x] w (RowIs m (l ++ b16 x) w) := by subst hm; exact u16_lays A n c l x w hx hc (by omega) h
theorem u32_lays_ (A : Option Addr) (n m c : Nat) (l : List Int) (x : Int) (w : World) (hx : 0 ≤ x ∧ x < 4294967296) (hc : n ≤ c ∧ c ≤ maxLen) (hm : m = n + 4) (hl : n ≤ 100000) (h : Rd w A n l) :
    Calls Try.prog 65 #[.slice A n c, .int .u32 x] w (RowIs m (l ++ b32 x) w) := by subst hm; exact u32_lays A n c l x w hx hc (by omega) h

theorem or8_64 (x : Int) (h : 0 ≤ x ∧ x < 64) : bits .or .u8 64 x = 64 + x := by
  have := bits_join .u8 8 (by decide) wraps_u8 6 64 x (by omega) (by omega) (by omega) (by omega) (by omega) (by omega)
  exact this

theorem OwnB.rdB {w : World} {B : Nat} {A : Option Addr} {n c : Nat} {l : List Int} (h : OwnB w B A n c l) (hl : Bytes l) : Rd w A n l := h.rd hl

theorem concat_told (A : Option Addr) (n c m : Nat) (ls : List (List Int)) (w : World) (hn : n ≤ 1000000) (h : RdL w A n ls) (hm : ls.flatten.length = m) (hx : m ≤ 140737488355328) :
    Calls Try.prog 36 #[.slice A n c] w (RowIs m ls.flatten w) := by subst hm; exact concat_any A n c ls w hn h hx

theorem RdL.four (w : World) (t : TypeId) (A B C D : Option Addr) (n c n1 c1 n2 c2 n3 c3 : Nat) (l l1 l2 l3 : List Int) (hc : n ≤ c ∧ c ≤ maxLen) (hc1 : n1 ≤ c1 ∧ c1 ≤ maxLen) (hc2 : n2 ≤ c2 ∧ c2 ≤ maxLen) (hc3 : n3 ≤ c3 ∧ c3 ≤ maxLen) (h : Rd w A n l) (h1 : Rd w B n1 l1) (h2 : Rd w C n2 l2) (h3 : Rd w D n3 l3) :
    RdL (w.alloc (.cells #[.slice A n c, .slice B n1 c1, .slice C n2 c2, .slice D n3 c3] t)) (some ⟨w.heap.size, 0, none⟩) 4 [l, l1, l2, l3] := by
  have := h.len; have := h1.len; have := h2.len; have := h3.len
  subst n n1 n2 n3
  refine RdL.row w _ rfl t (0, 0) [.slice A l.length c, .slice B l1.length c1, .slice C l2.length c2, .slice D l3.length c3] [l, l1, l2, l3] (fun i hi => ?_)
  match i, hi with
  | 0, _ => exact ⟨A, c, rfl, hc.1, hc.2, h⟩
  | 1, _ => exact ⟨B, c1, rfl, hc1.1, hc1.2, h1⟩
  | 2, _ => exact ⟨C, c2, rfl, hc2.1, hc2.2, h2⟩
  | 3, _ => exact ⟨D, c3, rfl, hc3.1, hc3.2, h3⟩

theorem lay_ip (tos id_ ttl proto src dst : Int) (df : Bool) (A : Option Addr) (n c : Nat) (opts : List Int) (long : Int) (w : World)
    (h0 : 0 ≤ tos ∧ tos < 256) (h1 : 0 ≤ id_ ∧ id_ < 65536) (h2 : 0 ≤ ttl ∧ ttl < 256) (h3 : 0 ≤ proto ∧ proto < 256) (h4 : 0 ≤ src ∧ src < 4294967296) (h5 : 0 ≤ dst ∧ dst < 4294967296)
    (hn : n ≤ 40) (hc : n ≤ c ∧ c ≤ maxLen) (hl : 0 ≤ long ∧ long < 65536) (h : Rd w A n opts) :
    Calls Try.prog 34 #[(.agg #[.int .u8 tos, .int .u16 id_, .bool df, .int .u8 ttl, .int .u8 proto, .int .u32 src, .int .u32 dst, .slice A n c]), .int .i64 (20 + (n : Int)), .int .i64 long] w (RowsAre 10 (aheadL tos id_ df ttl proto n long) (8 + n) (behindL src dst opts) w) := by
  have hq0 : 0 ≤ (20 + (n : Int)) / 4 ∧ (20 + (n : Int)) / 4 < 64 := by omega
  have hqn : Hid (64 + (20 + (n : Int)) / 4 < 256) := by show _ < _; omega
  have hlo := wraps_u16 long hl.1 (by omega)
  have hho := wraps_u8 ((20 + (n : Int)) / 4) (by omega) (by omega)
  have hbhd := behindL_bytes h4 h5 h.byte
  have hA := aheadL_bytes (df := df) h0 h1 h2 h3 hn hl
  have HA := Lib.hid hA
  have Hbh := Lib.hid hbhd
  have hfl : 0 ≤ flagsOf df ∧ flagsOf df < 65536 := by unfold flagsOf; split <;> omega
  have Hal := Lib.hid (show aheadL tos id_ df ttl proto n long = [] ++ [64 + (20 + (n : Int)) / 4] ++ [tos] ++ b16 long ++ b16 id_ ++ b16 (flagsOf df) ++ [ttl] ++ [proto] by simp [aheadL])
  have Hbl := Lib.hid (show behindL src dst opts = ([[] ++ b32 src ++ b32 dst, opts] : List (List Int)).flatten by simp [behindL])
  have Hbn := Lib.hid (show ([[] ++ b32 src ++ b32 dst, opts] : List (List Int)).flatten.length = 8 + n by simp [b32, h.len]; omega)
  have B1 := Lib.hid (show Bytes ([] ++ [64 + (20 + (n : Int)) / 4]) by intro y hy; simp at hy; omega)
  have B2 := Lib.hid (B1.out.app (show Bytes [tos] by intro y hy; simp at hy; omega))
  have B3 := Lib.hid (B2.out.app (b16_bytes hl))
  have B4 := Lib.hid (B3.out.app (b16_bytes h1))
  have B5 := Lib.hid (B4.out.app (b16_bytes hfl))
  have B6 := Lib.hid (B5.out.app (show Bytes [ttl] by intro y hy; simp at hy; omega))
  have C1 := Lib.hid (show Bytes ([] ++ b32 src) by simpa using b32_bytes h4)
  have C2 := Lib.hid (C1.out.app (b32_bytes h5))
  have hhor := or8_64 ((20 + (n : Int)) / 4) hq0
  obtain ⟨q, eq⟩ : ∃ q, (20 + (n : Int)) / 4 = q := ⟨_, rfl⟩
  rw [eq] at hq0 hho hhor hqn Hal B1 B2 B3 B4 B5 B6
  have Hh := Lib.hid h
  have Hhb := Lib.hid h.byte
  clear hA hbhd h
  obtain ⟨hl0, hl1⟩ := id hl
  obtain ⟨q0, q1⟩ := hq0
  have hqn := hqn.out
  have hx1 : 0 ≤ 64 + q ∧ 64 + q < 256 := by omega
  have Hblk := Lib.hid (heap_alloc_new w (.cells #[.int .u8 tos, .int .u16 id_, .bool df, .int .u8 ttl, .int .u8 proto, .int .u32 src, .int .u32 dst, .slice A n c] 43))
  have Hb := Lib.hid ((Below.refl w.heap.size w).alloc (Nat.le_refl _) (.cells #[.int .u8 tos, .int .u16 id_, .bool df, .int .u8 ttl, .int .u8 proto, .int .u32 src, .int .u32 dst, .slice A n c] 43))
  obtain ⟨fl, efl⟩ : ∃ fl, flagsOf df = fl := ⟨_, rfl⟩
  rw [efl] at hfl Hal B5 B6
  have Efl := Lib.hid efl
  clear efl
  have hc_ := hc
  cases df
  · have hflv : fl = 0 := Efl.out.symm
    subst hflv
    clear Efl
    go_enter Try.func34, Try.ntmps34
    go_wp2_with fail
    clear eq hhor hho
    (with_reducible refine (u8_lays_ none 0 1 0 _ (64 + q) _ (by assumption) ⟨by omega, by first | assumption | simp [maxLen]⟩ rfl (by omega) (Rd.nil _ _)).mono ?_)
    rintro e w1 ⟨A1, c1, rfl, k1, m1, hown, hb⟩
    have Ho := Lib.hid (hown.mono (B' := w.heap.size) Hb.out.size)
    have Hb0 := Hb
    have Hb := Lib.hid (below_trans Hb.out hb)
    have Hblk := Lib.hid (blk_on Hblk.out hb)
    have hc := blk_cell Hblk.out 0
    simp at hc
    have hb1 := Lib.hid hb
    clear hown hb Hb0
    go_wp2_with fail
    (with_reducible refine (u8_lays_ A1 1 2 c1 _ tos _ (by assumption) ⟨by omega, by first | assumption | simp [maxLen]⟩ rfl (by omega) (Ho.out.rdB B1.out)).mono ?_)
    rintro e w2 ⟨A2, c2, rfl, k2, m2, hown, hb⟩
    have Ho := Lib.hid (hown.mono (B' := w.heap.size) Hb.out.size)
    have Hb0 := Hb
    have Hb := Lib.hid (below_trans Hb.out hb)
    have Hblk := Lib.hid (blk_on Hblk.out hb)
    have hc := blk_cell Hblk.out 1
    simp at hc
    have hb2 := Lib.hid hb
    clear hown hb Hb0
    go_wp2_with fail
    (with_reducible refine (u16_lays_ A2 2 4 c2 _ long _ (by assumption) ⟨by omega, by first | assumption | simp [maxLen]⟩ rfl (by omega) (Ho.out.rdB B2.out)).mono ?_)
    rintro e w3 ⟨A3, c3, rfl, k3, m3, hown, hb⟩
    have Ho := Lib.hid (hown.mono (B' := w.heap.size) Hb.out.size)
    have Hb0 := Hb
    have Hb := Lib.hid (below_trans Hb.out hb)
    have Hblk := Lib.hid (blk_on Hblk.out hb)
    have hc := blk_cell Hblk.out 1
    simp at hc
    have hb3 := Lib.hid hb
    clear hown hb Hb0
    go_wp2_with fail
    (with_reducible refine (u16_lays_ A3 4 6 c3 _ id_ _ (by assumption) ⟨by omega, by first | assumption | simp [maxLen]⟩ rfl (by omega) (Ho.out.rdB B3.out)).mono ?_)
    rintro e w4 ⟨A4, c4, rfl, k4, m4, hown, hb⟩
    have Ho := Lib.hid (hown.mono (B' := w.heap.size) Hb.out.size)
    have Hb0 := Hb
    have Hb := Lib.hid (below_trans Hb.out hb)
    have Hblk := Lib.hid (blk_on Hblk.out hb)
    have hc := blk_cell Hblk.out 3
    simp at hc
    have hb4 := Lib.hid hb
    clear hown hb Hb0
    go_wp2_with fail
    (with_reducible refine (u16_lays_ A4 6 8 c4 _ 0 _ (by assumption) ⟨by omega, by first | assumption | simp [maxLen]⟩ rfl (by omega) (Ho.out.rdB B4.out)).mono ?_)
    rintro e w5 ⟨A5, c5, rfl, k5, m5, hown, hb⟩
    have Ho := Lib.hid (hown.mono (B' := w.heap.size) Hb.out.size)
    have Hb0 := Hb
    have Hb := Lib.hid (below_trans Hb.out hb)
    have Hblk := Lib.hid (blk_on Hblk.out hb)
    have hc := blk_cell Hblk.out 3
    simp at hc
    have hb5 := Lib.hid hb
    clear hown hb Hb0
    go_wp2_with fail
    (with_reducible refine (u8_lays_ A5 8 9 c5 _ ttl _ (by assumption) ⟨by omega, by first | assumption | simp [maxLen]⟩ rfl (by omega) (Ho.out.rdB B5.out)).mono ?_)
    rintro e w6 ⟨A6, c6, rfl, k6, m6, hown, hb⟩
    have Ho := Lib.hid (hown.mono (B' := w.heap.size) Hb.out.size)
    have Hb0 := Hb
    have Hb := Lib.hid (below_trans Hb.out hb)
    have Hblk := Lib.hid (blk_on Hblk.out hb)
    have hc := blk_cell Hblk.out 4
    simp at hc
    have hb6 := Lib.hid hb
    clear hown hb Hb0
    go_wp2_with fail
    (with_reducible refine (u8_lays_ A6 9 10 c6 _ proto _ (by assumption) ⟨by omega, by first | assumption | simp [maxLen]⟩ rfl (by omega) (Ho.out.rdB B6.out)).mono ?_)
    rintro e w7 ⟨A7, c7, rfl, k7, m7, hown, hb⟩
    have Ho := Lib.hid (hown.mono (B' := w.heap.size) Hb.out.size)
    have Hb0 := Hb
    have Hb := Lib.hid (below_trans Hb.out hb)
    have Hblk := Lib.hid (blk_on Hblk.out hb)
    have hc := blk_cell Hblk.out 5
    simp at hc
    have hb7 := Lib.hid hb
    clear hown hb Hb0
    go_wp2_with fail
    have Ha := Ho
    (with_reducible refine (u32_lays_ none 0 4 0 _ src _ (by assumption) ⟨by omega, by first | assumption | simp [maxLen]⟩ rfl (by omega) (Rd.nil _ _)).mono ?_)
    rintro e w8 ⟨A8, c8, rfl, k8, m8, hown, hb⟩
    have Ho := Lib.hid (hown.mono (B' := w.heap.size) Hb.out.size)
    have Hb0 := Hb
    have Hb := Lib.hid (below_trans Hb.out hb)
    have Hblk := Lib.hid (blk_on Hblk.out hb)
    have hc := blk_cell Hblk.out 6
    simp at hc
    have hb8 := Lib.hid hb
    clear hown hb Hb0
    go_wp2_with fail
    have Ha := Lib.hid (Ha.out.on hb8.out)
    (with_reducible refine (u32_lays_ A8 4 8 c8 _ dst _ (by assumption) ⟨by omega, by first | assumption | simp [maxLen]⟩ rfl (by omega) (Ho.out.rdB C1.out)).mono ?_)
    rintro e w9 ⟨A9, c9, rfl, k9, m9, hown, hb⟩
    have Ho := Lib.hid (hown.mono (B' := w.heap.size) Hb.out.size)
    have Hb0 := Hb
    have Hb := Lib.hid (below_trans Hb.out hb)
    have Hblk := Lib.hid (blk_on Hblk.out hb)
    have hc := blk_cell Hblk.out 7
    simp at hc
    have hb9 := Lib.hid hb
    clear hown hb Hb0
    go_wp2_with fail
    have Ha := Lib.hid (Ha.out.on hb9.out)
    have Hoo := Lib.hid (Hh.out.below Hb.out)
    (with_reducible refine (concat_told _ 2 2 (8 + n) [[] ++ b32 src ++ b32 dst, opts] _ (by omega) (RdL.twoW _ _ A9 A 8 c9 n c _ _ ⟨by omega, by assumption⟩ hc_ (Ho.out.rdB C2.out) Hoo.out) Hbn.out (by omega)).mono ?_)
    rintro e w10 ⟨A10, c10, rfl, k10, m10, hown, hb⟩
    have hal := (Below.refl w9.heap.size w9).alloc (Nat.le_refl _) (.cells #[.slice A9 8 c9, .slice A n c] 22)
    have hbb := below_trans hal hb
    have Hr := Lib.hid (show RowsAre 10 (aheadL tos id_ false ttl proto n long) (8 + n) (behindL src dst opts) w (.returned (.tuple #[.slice A7 10 c7, .slice A10 (8 + n) c10])) w10 from
      ⟨A7, c7, A10, c10, rfl, by rw [Hal.out]; exact Ha.out.on hbb, by rw [Hbl.out]; exact hown.mono (by have := Hb.out.size; simp; omega), below_trans Hb.out hbb⟩)
    clear hown hb hal hbb
    go_wp2_with fail
    go_ret2
    exact Hr.out
  · have hflv : fl = 16384 := Efl.out.symm
    subst hflv
    clear Efl
    go_enter Try.func34, Try.ntmps34
    go_wp2_with fail
    clear eq hhor hho
    (with_reducible refine (u8_lays_ none 0 1 0 _ (64 + q) _ (by assumption) ⟨by omega, by first | assumption | simp [maxLen]⟩ rfl (by omega) (Rd.nil _ _)).mono ?_)
    rintro e w1 ⟨A1, c1, rfl, k1, m1, hown, hb⟩
    have Ho := Lib.hid (hown.mono (B' := w.heap.size) Hb.out.size)
    have Hb0 := Hb
    have Hb := Lib.hid (below_trans Hb.out hb)
    have Hblk := Lib.hid (blk_on Hblk.out hb)
    have hc := blk_cell Hblk.out 0
    simp at hc
    have hb1 := Lib.hid hb
    clear hown hb Hb0
    go_wp2_with fail
    (with_reducible refine (u8_lays_ A1 1 2 c1 _ tos _ (by assumption) ⟨by omega, by first | assumption | simp [maxLen]⟩ rfl (by omega) (Ho.out.rdB B1.out)).mono ?_)
    rintro e w2 ⟨A2, c2, rfl, k2, m2, hown, hb⟩
    have Ho := Lib.hid (hown.mono (B' := w.heap.size) Hb.out.size)
    have Hb0 := Hb
    have Hb := Lib.hid (below_trans Hb.out hb)
    have Hblk := Lib.hid (blk_on Hblk.out hb)
    have hc := blk_cell Hblk.out 1
    simp at hc
    have hb2 := Lib.hid hb
    clear hown hb Hb0
    go_wp2_with fail
    (with_reducible refine (u16_lays_ A2 2 4 c2 _ long _ (by assumption) ⟨by omega, by first | assumption | simp [maxLen]⟩ rfl (by omega) (Ho.out.rdB B2.out)).mono ?_)
    rintro e w3 ⟨A3, c3, rfl, k3, m3, hown, hb⟩
    have Ho := Lib.hid (hown.mono (B' := w.heap.size) Hb.out.size)
    have Hb0 := Hb
    have Hb := Lib.hid (below_trans Hb.out hb)
    have Hblk := Lib.hid (blk_on Hblk.out hb)
    have hc := blk_cell Hblk.out 1
    simp at hc
    have hb3 := Lib.hid hb
    clear hown hb Hb0
    go_wp2_with fail
    (with_reducible refine (u16_lays_ A3 4 6 c3 _ id_ _ (by assumption) ⟨by omega, by first | assumption | simp [maxLen]⟩ rfl (by omega) (Ho.out.rdB B3.out)).mono ?_)
    rintro e w4 ⟨A4, c4, rfl, k4, m4, hown, hb⟩
    have Ho := Lib.hid (hown.mono (B' := w.heap.size) Hb.out.size)
    have Hb0 := Hb
    have Hb := Lib.hid (below_trans Hb.out hb)
    have Hblk := Lib.hid (blk_on Hblk.out hb)
    have hc := blk_cell Hblk.out 3
    simp at hc
    have hb4 := Lib.hid hb
    clear hown hb Hb0
    go_wp2_with fail
    (with_reducible refine (u16_lays_ A4 6 8 c4 _ 16384 _ (by assumption) ⟨by omega, by first | assumption | simp [maxLen]⟩ rfl (by omega) (Ho.out.rdB B4.out)).mono ?_)
    rintro e w5 ⟨A5, c5, rfl, k5, m5, hown, hb⟩
    have Ho := Lib.hid (hown.mono (B' := w.heap.size) Hb.out.size)
    have Hb0 := Hb
    have Hb := Lib.hid (below_trans Hb.out hb)
    have Hblk := Lib.hid (blk_on Hblk.out hb)
    have hc := blk_cell Hblk.out 3
    simp at hc
    have hb5 := Lib.hid hb
    clear hown hb Hb0
    go_wp2_with fail
    (with_reducible refine (u8_lays_ A5 8 9 c5 _ ttl _ (by assumption) ⟨by omega, by first | assumption | simp [maxLen]⟩ rfl (by omega) (Ho.out.rdB B5.out)).mono ?_)
    rintro e w6 ⟨A6, c6, rfl, k6, m6, hown, hb⟩
    have Ho := Lib.hid (hown.mono (B' := w.heap.size) Hb.out.size)
    have Hb0 := Hb
    have Hb := Lib.hid (below_trans Hb.out hb)
    have Hblk := Lib.hid (blk_on Hblk.out hb)
    have hc := blk_cell Hblk.out 4
    simp at hc
    have hb6 := Lib.hid hb
    clear hown hb Hb0
    go_wp2_with fail
    (with_reducible refine (u8_lays_ A6 9 10 c6 _ proto _ (by assumption) ⟨by omega, by first | assumption | simp [maxLen]⟩ rfl (by omega) (Ho.out.rdB B6.out)).mono ?_)
    rintro e w7 ⟨A7, c7, rfl, k7, m7, hown, hb⟩
    have Ho := Lib.hid (hown.mono (B' := w.heap.size) Hb.out.size)
    have Hb0 := Hb
    have Hb := Lib.hid (below_trans Hb.out hb)
    have Hblk := Lib.hid (blk_on Hblk.out hb)
    have hc := blk_cell Hblk.out 5
    simp at hc
    have hb7 := Lib.hid hb
    clear hown hb Hb0
    go_wp2_with fail
    have Ha := Ho
    (with_reducible refine (u32_lays_ none 0 4 0 _ src _ (by assumption) ⟨by omega, by first | assumption | simp [maxLen]⟩ rfl (by omega) (Rd.nil _ _)).mono ?_)
    rintro e w8 ⟨A8, c8, rfl, k8, m8, hown, hb⟩
    have Ho := Lib.hid (hown.mono (B' := w.heap.size) Hb.out.size)
    have Hb0 := Hb
    have Hb := Lib.hid (below_trans Hb.out hb)
    have Hblk := Lib.hid (blk_on Hblk.out hb)
    have hc := blk_cell Hblk.out 6
    simp at hc
    have hb8 := Lib.hid hb
    clear hown hb Hb0
    go_wp2_with fail
    have Ha := Lib.hid (Ha.out.on hb8.out)
    (with_reducible refine (u32_lays_ A8 4 8 c8 _ dst _ (by assumption) ⟨by omega, by first | assumption | simp [maxLen]⟩ rfl (by omega) (Ho.out.rdB C1.out)).mono ?_)
    rintro e w9 ⟨A9, c9, rfl, k9, m9, hown, hb⟩
    have Ho := Lib.hid (hown.mono (B' := w.heap.size) Hb.out.size)
    have Hb0 := Hb
    have Hb := Lib.hid (below_trans Hb.out hb)
    have Hblk := Lib.hid (blk_on Hblk.out hb)
    have hc := blk_cell Hblk.out 7
    simp at hc
    have hb9 := Lib.hid hb
    clear hown hb Hb0
    go_wp2_with fail
    have Ha := Lib.hid (Ha.out.on hb9.out)
    have Hoo := Lib.hid (Hh.out.below Hb.out)
    (with_reducible refine (concat_told _ 2 2 (8 + n) [[] ++ b32 src ++ b32 dst, opts] _ (by omega) (RdL.twoW _ _ A9 A 8 c9 n c _ _ ⟨by omega, by assumption⟩ hc_ (Ho.out.rdB C2.out) Hoo.out) Hbn.out (by omega)).mono ?_)
    rintro e w10 ⟨A10, c10, rfl, k10, m10, hown, hb⟩
    have hal := (Below.refl w9.heap.size w9).alloc (Nat.le_refl _) (.cells #[.slice A9 8 c9, .slice A n c] 22)
    have hbb := below_trans hal hb
    have Hr := Lib.hid (show RowsAre 10 (aheadL tos id_ true ttl proto n long) (8 + n) (behindL src dst opts) w (.returned (.tuple #[.slice A7 10 c7, .slice A10 (8 + n) c10])) w10 from
      ⟨A7, c7, A10, c10, rfl, by rw [Hal.out]; exact Ha.out.on hbb, by rw [Hbl.out]; exact hown.mono (by have := Hb.out.size; simp; omega), below_trans Hb.out hbb⟩)
    clear hown hb hal hbb
    go_wp2_with fail
    go_ret2
    exact Hr.out

/-- A row of the call's own, and OK. -/
def RowOk (m : Nat) (l : List Int) (w : World) (e : Ending) (w' : World) : Prop :=
  ∃ A c, e = .returned (.tuple #[.slice A m c, .int .i64 0]) ∧ m ≤ c ∧ c ≤ maxLen ∧ OwnB w' w.heap.size A m c l ∧ Below w.heap.size w w'

theorem put_ok (tos id_ ttl proto src dst : Int) (df : Bool) (A A' : Option Addr) (n c n' c' : Nat) (opts payload : List Int) (w : World)
    (h0 : 0 ≤ tos ∧ tos < 256) (h1 : 0 ≤ id_ ∧ id_ < 65536) (h2 : 0 ≤ ttl ∧ ttl < 256) (h3 : 0 ≤ proto ∧ proto < 256) (h4 : 0 ≤ src ∧ src < 4294967296) (h5 : 0 ≤ dst ∧ dst < 4294967296)
    (hm : mayB ttl n = true) (hn : n ≤ 40) (hc : n ≤ c ∧ c ≤ maxLen) (hc' : n' ≤ c' ∧ c' ≤ maxLen) (hl : 20 + n + n' ≤ 1500) (h : Rd w A n opts) (h' : Rd w A' n' payload) :
    Calls Try.prog 15 #[(.agg #[.int .u8 tos, .int .u16 id_, .bool df, .int .u8 ttl, .int .u8 proto, .int .u32 src, .int .u32 dst, .slice A n c]), .slice A' n' c'] w (RowOk (20 + n + n') (packetL tos id_ df ttl proto src dst opts payload) w) := by
  have Hb := Lib.hid ((Below.refl w.heap.size w).alloc (Nat.le_refl _) (.cells #[.int .u8 tos, .int .u16 id_, .bool df, .int .u8 ttl, .int .u8 proto, .int .u32 src, .int .u32 dst, .slice A n c] 43))
  have Hblk := Lib.hid (heap_alloc_new w (.cells #[.int .u8 tos, .int .u16 id_, .bool df, .int .u8 ttl, .int .u8 proto, .int .u32 src, .int .u32 dst, .slice A n c] 43))
  have Hm := Lib.hid hm
  have hli : 20 + (n : Int) + (n' : Int) ≤ 1500 := by omega
  have hlw : 0 ≤ 20 + (n : Int) + (n' : Int) ∧ 20 + (n : Int) + (n' : Int) < 65536 := by omega
  have Ho := Lib.hid h
  have Hp := Lib.hid h'
  have Hlo := Lib.hid h.len
  have Hlp := Lib.hid h'.len
  have hA := Lib.hid (aheadL_bytes (df := df) h0 h1 h2 h3 hn hlw)
  have hB := Lib.hid (behindL_bytes h4 h5 h.byte)
  clear hm hl h h'
  go_enter Try.func15, Try.ntmps15
  go_wp2_with fail
  refine (may_any tos id_ ttl proto src dst df A n c _).mono ?_
  rw [Hm.out]
  rintro e w1 ⟨rfl, hb⟩
  have Hb := Lib.hid (below_trans Hb.out hb)
  have Hblk := Lib.hid (blk_on Hblk.out hb)
  have hc7 := blk_cell Hblk.out 7
  have hc0 := blk_cell Hblk.out 0
  have hc1 := blk_cell Hblk.out 1
  have hc2 := blk_cell Hblk.out 2
  have hc3 := blk_cell Hblk.out 3
  have hc4 := blk_cell Hblk.out 4
  have hc5 := blk_cell Hblk.out 5
  have hc6 := blk_cell Hblk.out 6
  simp at hc0 hc1 hc2 hc3 hc4 hc5 hc6 hc7
  have Ho := Lib.hid (Ho.out.below Hb.out)
  have Hp := Lib.hid (Hp.out.below Hb.out)
  clear hb
  go_wp2_with fail
  clear hc0 hc1 hc2 hc3 hc4 hc5 hc6 hc7
  (with_reducible refine (lay_ip tos id_ ttl proto src dst df A n c opts _ _ h0 h1 h2 h3 h4 h5 hn hc hlw Ho.out).mono ?_)
  rintro e w2 ⟨A1, c1, A2, c2, rfl, ho1, ho2, hb⟩
  have Ho1 := Lib.hid (ho1.mono Hb.out.size)
  have Ho2 := Lib.hid (ho2.mono Hb.out.size)
  have hk1 := ho1.cap
  have hk2 := ho2.cap
  have hm1 := ho1.capMax
  have hm2 := ho2.capMax
  have Hp := Lib.hid (Hp.out.below hb)
  have Hb := Lib.hid (below_trans Hb.out hb)
  clear ho1 ho2 hb
  go_wp2_with fail
  have Hal := Lib.hid ((Below.refl w2.heap.size w2).alloc (Nat.le_refl _) (.cells #[.slice A1 10 c1, .slice A2 (8 + n) c2] 22))
  obtain ⟨fd, efd⟩ : ∃ fd, 65535 - sumL ([aheadL tos id_ df ttl proto n (20 + (n : Int) + (n' : Int)), behindL src dst opts] : List (List Int)).flatten = fd := ⟨_, rfl⟩
  have hfd : 0 ≤ fd ∧ fd < 65536 := by have := sumL_bd ([aheadL tos id_ df ttl proto n (20 + (n : Int) + (n' : Int)), behindL src dst opts] : List (List Int)).flatten; omega
  have Efd := Lib.hid efd
  clear efd
  (with_reducible refine (field_told _ 2 2 [aheadL tos id_ df ttl proto n (20 + (n : Int) + (n' : Int)), behindL src dst opts] _ fd (by omega) (RdL.twoW _ _ A1 A2 10 c1 (8 + n) c2 _ _ ⟨hk1, hm1⟩ ⟨hk2, hm2⟩ (Ho1.out.rdB hA.out) (Ho2.out.rdB hB.out)) Efd.out).mono ?_)
  rintro e w3 ⟨rfl, hb⟩
  have hbb := below_trans Hal.out hb
  have Ho1 := Lib.hid (Ho1.out.on hbb)
  have Ho2 := Lib.hid (Ho2.out.on hbb)
  have Hp := Lib.hid (Hp.out.below hbb)
  have Hb := Lib.hid (below_trans Hb.out hbb)
  clear hb hbb Hal
  go_wp2_with fail
  (with_reducible refine (u16_lays_ none 0 2 0 [] fd _ hfd ⟨by omega, by simp [maxLen]⟩ rfl (by omega) (Rd.nil _ _)).mono ?_)
  rintro e w4 ⟨A4, c4, rfl, k4, m4, ho4, hb⟩
  have Ho4 := Lib.hid (ho4.mono Hb.out.size)
  have Ho1 := Lib.hid (Ho1.out.on hb)
  have Ho2 := Lib.hid (Ho2.out.on hb)
  have Hp := Lib.hid (Hp.out.below hb)
  have Hb := Lib.hid (below_trans Hb.out hb)
  have B4 := Lib.hid (show Bytes ([] ++ b16 fd) by simpa using b16_bytes hfd)
  clear hb ho4
  go_wp2_with fail
  have Hal := Lib.hid ((Below.refl w4.heap.size w4).alloc (Nat.le_refl _) (.cells #[.slice A1 10 c1, .slice A4 2 c4, .slice A2 (8 + n) c2, .slice A' n' c'] 22))
  (with_reducible refine (concat_told _ 4 4 (20 + n + n') [aheadL tos id_ df ttl proto n (20 + (n : Int) + (n' : Int)), [] ++ b16 fd, behindL src dst opts, payload] _ (by omega) (RdL.four _ _ A1 A4 A2 A' 10 c1 2 c4 (8 + n) c2 n' c' _ _ _ _ ⟨hk1, hm1⟩ ⟨k4, m4⟩ ⟨hk2, hm2⟩ hc' (Ho1.out.rdB hA.out) (Ho4.out.rdB B4.out) (Ho2.out.rdB hB.out) Hp.out) ?_ (by omega)).mono ?_)
  · have := Hlo.out; have := Hlp.out; simp [behindL_len, aheadL_len, b16]; omega
  rintro e w5 ⟨A5, c5, rfl, k5, m5, ho5, hb⟩
  have Hr := Lib.hid (show RowOk (20 + n + n') (packetL tos id_ df ttl proto src dst opts payload) w (.returned (.tuple #[.slice A5 (20 + n + n') c5, .int .i64 0])) w5 from by
    refine ⟨A5, c5, rfl, k5, m5, ?_, below_trans Hb.out (below_trans Hal.out hb)⟩
    have e1 : packetL tos id_ df ttl proto src dst opts payload = ([aheadL tos id_ df ttl proto n (20 + (n : Int) + (n' : Int)), [] ++ b16 fd, behindL src dst opts, payload] : List (List Int)).flatten := by
      unfold packetL fieldL
      rw [Hlo.out, Hlp.out, ← Efd.out]
      simp
    rw [e1]
    exact ho5.mono (by have := Hb.out.size; simp; omega))
  clear ho5 hb Hal
  go_wp2_with fail
  go_ret2
  exact Hr.out

end Go.Proofs.Ytoegfgbalcholaa
