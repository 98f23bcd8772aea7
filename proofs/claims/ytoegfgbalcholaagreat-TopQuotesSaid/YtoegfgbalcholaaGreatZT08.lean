/-
  Texts laid together: Udp, UdpPut, UdpRead, UdpPlain.
-/
import Derived.Test.YtoegfgbalcholaaGreatZT06
import Derived.Test.YtoegfgbalcholaaGreatZT04
import Derived.Test.YtoegfgbalcholaaGreatZT07
import Derived.Deep.RegionHeld3
import Derived.Test.YtoegfgbalcholaaGreatZT01
import Derived.Deep.CutRange

/-
  Package udp: what a datagram's bytes are; the contracts of word, fieldOf, and of the closure within Put.
-/
namespace Go.Proofs.YtoegfgbalcholaaGreat
set_option maxRecDepth 10000
open Go.RowKit

/-- The field of bytes: never 0000. -/
def fldU (l : List Int) : Int := if 65535 - sumL l = 0 then 65535 else 65535 - sumL l
def hdU (s : Dg) : List Int := be16 s.sp ++ be16 s.dp ++ be16 (8 + (s.d.length : Int))
def fieldU (src dst : Int) (s : Dg) : Int := fldU (pseudoL src dst 17 (8 + (s.d.length : Int)) ++ (hdU s ++ s.d))
/-- A datagram's bytes. -/
def dgB (src dst : Int) (s : Dg) : List Int := hdU s ++ (be16 (fieldU src dst s) ++ s.d)
theorem fldU_bd (l : List Int) : 0 < fldU l ∧ fldU l < 65536 := by
  have := sumL_bd l
  unfold fldU
  split <;> omega
theorem hdU_len (s : Dg) : (hdU s).length = 6 := by simp [hdU, be16]
theorem dgB_len (src dst : Int) (s : Dg) : (dgB src dst s).length = 8 + s.d.length := by simp [dgB, hdU, be16]; omega
theorem be16_bytes {x : Int} (h : 0 ≤ x ∧ x < 65536) : ∀ y ∈ be16 x, 0 ≤ y ∧ y < 256 := by intro y hy; simp [be16] at hy; omega
theorem hdU_bytes {s : Dg} (h : DgNum s) (hl : s.d.length ≤ 1472) : ∀ x ∈ hdU s, 0 ≤ x ∧ x < 256 := by
  obtain ⟨h1, h2⟩ := h
  intro x hx
  simp [hdU, be16] at hx
  omega
theorem dgB_bytes {s : Dg} (src dst : Int) (h : DgNum s) (hl : s.d.length ≤ 1472) (hd : ∀ x ∈ s.d, 0 ≤ x ∧ x < 256) : ∀ x ∈ dgB src dst s, 0 ≤ x ∧ x < 256 := by
  intro x hx
  rcases List.mem_append.1 hx with h1 | h1
  · exact hdU_bytes h hl x h1
  · rcases List.mem_append.1 h1 with h2 | h2
    · have : 0 < fieldU src dst s ∧ fieldU src dst s < 65536 := fldU_bd _
      exact be16_bytes (by omega) x h2
    · exact hd x h2

theorem word_row (x : Int) (w : World) (hx : 0 ≤ x ∧ x < 65536) :
    Calls Tryz.prog 106 #[.int .u16 x] w (RowIs 2 (be16 x) w) := by
  have Hu := Lib.hid (u16_lays none 0 0 [] x w hx (by simp [maxLen]) (by omega) (Rd.nil _ _))
  go_enter Tryz.func106, Tryz.ntmps106
  go_wp2_with fail
  refine Hu.out.mono ?_
  rintro e w1 ⟨A1, c1, rfl, h1, h2, hown, hb1⟩
  have Ho := Lib.hid hown
  have Hb := Lib.hid hb1
  clear hown hb1
  go_wp2_with fail
  go_ret
  exact ⟨A1, c1, rfl, h1, h2, Ho.out, Hb.out⟩

theorem fieldof_any (A : Option Addr) (n c : Nat) (ls : List (List Int)) (w : World) (x : Int) (hn : n ≤ 1000) (h : RdL w A n ls) (hx : fldU ls.flatten = x) :
    Calls Tryz.prog 107 #[.slice A n c] w (SumIs x w) := by
  have Hf := Lib.hid (field_any A n c ls w (by omega) h)
  unfold fldU at hx
  obtain ⟨y, ey⟩ : ∃ y, 65535 - sumL ls.flatten = y := ⟨_, rfl⟩
  rw [ey] at Hf hx
  clear h ey
  by_cases hy : y = 0
  · subst hy
    rw [if_pos rfl] at hx
    subst hx
    go_enter Tryz.func107, Tryz.ntmps107
    go_wp2_with fail
    refine Hf.out.mono ?_
    rintro e w1 ⟨rfl, hb1⟩
    have Hb := Lib.hid hb1
    clear hb1
    go_wp2_with fail
    go_ret
    exact ⟨rfl, Hb.out⟩
  · rw [if_neg hy] at hx
    subst hx
    have hy2 : (y == 0) = false := by simpa using hy
    have hy3 : (y != 0) = true := by simpa using hy
    clear hy
    go_enter Tryz.func107, Tryz.ntmps107
    go_wp2_with fail
    refine Hf.out.mono ?_
    rintro e w1 ⟨rfl, hb1⟩
    have Hb := Lib.hid hb1
    clear hb1
    go_wp2_with fail
    go_ret
    exact ⟨rfl, Hb.out⟩

/-- A row grows in a box of the caller's own: nothing else that was there turns but the row. -/
def LaidU (p B : Nat) (A1 : Option Addr) (m : Nat) (l : List Int) (w : World) (e : Ending) (w' : World) : Prop :=
  e = .returned (.tuple #[]) ∧ (∃ A2 c2, Box w' p 24 (.slice A2 m c2) ∧ OwnB w' B A2 m c2 l) ∧ But (fun k => k = p ∨ A1 = some ⟨k, 0, none⟩) w w'

theorem own_block {w : World} {B : Nat} {A : Option Addr} {n c : Nat} {l : List Int} (h : OwnB w B A n c l) (g : Nat) : (Value.slice A n c).ownBlock = some g → A = some ⟨g, 0, none⟩ ∧ g < w.heap.size := by
  intro e
  rcases h.2 with ⟨e1, _⟩ | ⟨g', cap, cur, e1, hBg, hg, _⟩
  · injection e1 with e1 _ _
    subst e1
    simp [Value.ownBlock] at e
  · injection e1 with e1 _ _
    subst e1
    simp [Value.ownBlock] at e
    subst e
    exact ⟨rfl, lt_of_block hg⟩
theorem own_block2 {w : World} {B : Nat} {A : Option Addr} {n c : Nat} {l : List Int} (h : OwnB w B A n c l) (g : Nat) (e : A = some ⟨g, 0, none⟩) : (Value.slice A n c).ownBlock = some g := by
  subst e
  simp [Value.ownBlock]

theorem ulay_any (B p : Nat) (A : Option Addr) (n c : Nat) (ls : List (List Int)) (A1 : Option Addr) (n1 c1 : Nat) (l : List Int) (T : Nat) (w : World) (hn : n ≤ 1000) (hp : p < B) (hB : B ≤ w.heap.size)
    (hbox : Box w p 24 (.slice A1 n1 c1)) (hown : OwnB w B A1 n1 c1 l) (h : ∀ w', But (fun k => k = p ∨ A1 = some ⟨k, 0, none⟩) w w' → RdL w' A n ls) (hT : ls.flatten.length = T) (hm : n1 + T ≤ 100000) :
    Calls Tryz.prog 105 #[.slice A n c, .pointer (some ⟨p, 0, none⟩)] w (LaidU p B A1 (n1 + T) (l ++ ls.flatten) w) := by
  have Hlen := Lib.hid (h w (But.refl _ _)).len
  have HT := Lib.hid hT
  have Hh := Lib.hid h
  have Hown := Lib.hid hown
  have Hbox := Lib.hid hbox
  clear h hT hown hbox
  go_enter Tryz.func105, Tryz.ntmps105
  go_wp2_with fail
  go_loopg [7] n (fun gk i wr => ∃ (j m : Nat) (A2 : Option Addr) (c2 : Nat), Hid (gk + j = n) ∧ j ≤ n ∧ i = .int .i64 (j : Int) ∧ m ≤ 100000 ∧ Hid (Box wr p 24 (.slice A2 m c2)) ∧ Hid (OwnB wr B A2 m c2 (l ++ (ls.take j).flatten)) ∧ Hid (But (fun k => k = p ∨ A1 = some ⟨k, 0, none⟩) w wr) ∧ Hid (∀ g, A2 = some ⟨g, 0, none⟩ → g < w.heap.size → A1 = some ⟨g, 0, none⟩))
  case atStart => exact ⟨0, n1, A1, c1, rfl, Nat.zero_le _, rfl, by omega, Hbox, by simpa using Hown, Lib.hid (But.refl _ _), Lib.hid (fun _ e _ => e)⟩
  case round =>
    obtain ⟨j, m, A2, c2, hgk, hj, rfl, hmj, hbx, hown, hb, hA⟩ := hrel
    by_cases hlt : j < n
    · have hf := flat_take ls j (by rw [Hlen.out]; exact hlt)
      obtain ⟨q, Ai, ci, hrunq, hqb, hcq, hci, hcm, hri⟩ := (Hh.out wr hb.out).index (c := c) hlt
      have hsum : m + (ls.getD j []).length ≤ 100000 := by
        have h1 := hown.out.len
        have h3 := flat_len_le ls (j + 1)
        rw [List.length_append] at h1
        rw [hf, List.length_append] at h3
        have := HT.out
        have := Hown.out.len
        omega
      have Hf := Lib.hid (show (l ++ (ls.take j).flatten) ++ ls.getD j [] = l ++ (ls.take (j + 1)).flatten by rw [hf, List.append_assoc])
      have hpc := hbx.out.cell
      have Hbs := Lib.hid (show B ≤ wr.heap.size from Nat.le_trans hB hb.out.size)
      obtain ⟨k, ek⟩ : ∃ k, (ls.getD j []).length = k := ⟨_, rfl⟩
      rw [ek] at hcq hsum hri hci
      have Hri := Lib.hid hri
      clear hri hci hf ek
      go_wp2_with (refine wpList_app rfl (.tmp 11) (.tmp 12) rfl B A2 Ai m c2 k ci _ _ rfl rfl hown.out Hri.out (by omega) Hbs.out ?_; intro A3 c3 w3 hown3 hg3 hb3 hat3; have hbx3 := hbx.out.below hb3 hp; have hf3 := hbx3.free; have hc3 := hbx3.cell)
      rw [Hf.out] at hown3
      have hB3 : But (fun k => k = p ∨ A1 = some ⟨k, 0, none⟩) w w3 := by
        refine ⟨hg3.os.trans hb.out.os, hg3.tape.trans hb.out.tape, hg3.output.trans hb.out.output, Nat.le_trans hb.out.size hg3.size, fun k hk hS => ?_⟩
        rw [hg3.block k (Nat.lt_of_lt_of_le hk hb.out.size) (fun e => hS (.inr (hA.out k (own_block hown.out k e.symm).1 hk)))]
        exact hb.out.block k hk hS
      have hA3 : ∀ g, A3 = some ⟨g, 0, none⟩ → g < w.heap.size → A1 = some ⟨g, 0, none⟩ := by
        intro g e hg
        have e2 := own_block2 hown3 g e
        rcases hat3 with h1 | h1
        · rw [h1] at e2
          exact hA.out g (own_block hown.out g e2).1 hg
        · rw [h1] at e2
          injection e2 with e2
          have := hb.out.size
          omega
      have Hbx4 := Lib.hid (hbx3.set_ (.slice A3 (m + k) c3))
      have Hown4 := Lib.hid (hown3.but ((But.refl (fun k => k = p) w3).setCell (p := ⟨p, 0, none⟩) rfl (.slice A3 (m + k) c3)) (fun k hk e => by omega))
      have Hb4 := Lib.hid (hB3.setCell (p := ⟨p, 0, none⟩) (.inl rfl) (.slice A3 (m + k) c3))
      have HA3 := Lib.hid hA3
      clear hown3 hg3 hb3 hat3 hbx3 hB3 hA3 hf3 hc3
      go_roundg (gk - 1)
      case measure => have := hgk.out; omega
      case rel => exact ⟨j + 1, m + k, A3, c3, by have := hgk.out; show gk - 1 + (j + 1) = _; omega, by omega, by go_num, hsum, Hbx4, Hown4, Hb4, HA3⟩
    · obtain rfl : j = n := by omega
      have ho := hown.out
      rw [List.take_of_length_le (by rw [Hlen.out]; exact Nat.le_refl _)] at ho
      have hmT : m = n1 + T := by
        have h1 := ho.len
        rw [List.length_append] at h1
        have := HT.out
        have := Hown.out.len
        omega
      subst hmT
      have Ho := Lib.hid ho
      clear ho
      go_wp2_with fail
      go_end0
      exact ⟨rfl, ⟨A2, c2, hbx.out, Ho.out⟩, hb.out⟩
end Go.Proofs.YtoegfgbalcholaaGreat

/-
  The contract of package udp's Put.
-/
namespace Go.Proofs.YtoegfgbalcholaaGreat
set_option maxRecDepth 10000
open Go.RowKit

/-- A row of slices that the walk has just laid, in a world in which nothing but S has turned since. -/
theorem RdL.rowBut {S : Nat → Prop} (w w' : World) (g : Nat) (hg : w.heap.size = g) (t : TypeId) (vs : List Value) (ls : List (List Int)) (n : Nat) (hn : ls.length = n) (hb : But S (w.alloc (.cells vs.toArray t)) w') (hS : ¬ S g)
    (h : ∀ i, i < n → ∃ Ai ci, vs[i]? = some (.slice Ai (ls.getD i []).length ci) ∧ (ls.getD i []).length ≤ ci ∧ ci ≤ maxLen ∧ Rd w Ai (ls.getD i []).length (ls.getD i []) ∧ ∀ k o, Ai = some ⟨k, o, none⟩ → 0 < (ls.getD i []).length → ¬ S k) :
    RdL w' (some ⟨g, 0, none⟩) n ls := by
  subst hg; subst hn
  refine ⟨rfl, fun _ => ⟨w.heap.size, 0, rfl, hb.lt (by simp), fun i hi => ?_⟩⟩
  obtain ⟨Ai, ci, h1, h2, h3, h4, h5⟩ := h i hi
  refine ⟨Ai, ci, ?_, h2, h3, (h4.below ((Below.refl _ _).alloc (Nat.le_refl _) _)).but hb h5⟩
  rw [hb.cell (p := ⟨w.heap.size, 0 + i, none⟩) (by simp) hS, World.cell?_alloc_mark]
  simpa using h1
theorem RdL.threeBut {S : Nat → Prop} (w w' : World) (g : Nat) (hg : w.heap.size = g) (t : TypeId) (A B C : Option Addr) (n c n1 c1 n2 c2 : Nat) (l l1 l2 : List Int) (hb : But S (w.alloc (.cells #[.slice A n c, .slice B n1 c1, .slice C n2 c2] t)) w') (hS : ¬ S g)
    (hc : n ≤ c ∧ c ≤ maxLen) (hc1 : n1 ≤ c1 ∧ c1 ≤ maxLen) (hc2 : n2 ≤ c2 ∧ c2 ≤ maxLen) (h : Rd w A n l) (h1 : Rd w B n1 l1) (h2 : Rd w C n2 l2) (s : ∀ k o, A = some ⟨k, o, none⟩ → ¬ S k) (s1 : ∀ k o, B = some ⟨k, o, none⟩ → ¬ S k) (s2 : ∀ k o, C = some ⟨k, o, none⟩ → ¬ S k) :
    RdL w' (some ⟨g, 0, none⟩) 3 [l, l1, l2] := by
  have := h.len; have := h1.len; have := h2.len
  subst n n1 n2
  refine RdL.rowBut w w' g hg t [.slice A l.length c, .slice B l1.length c1, .slice C l2.length c2] _ 3 rfl hb hS (fun i hi => ?_)
  match i, hi with
  | 0, _ => exact ⟨A, c, rfl, hc.1, hc.2, h, fun k o e _ => s k o e⟩
  | 1, _ => exact ⟨B, c1, rfl, hc1.1, hc1.2, h1, fun k o e _ => s1 k o e⟩
  | 2, _ => exact ⟨C, c2, rfl, hc2.1, hc2.2, h2, fun k o e _ => s2 k o e⟩
theorem RdL.twoBut {S : Nat → Prop} (w w' : World) (g : Nat) (hg : w.heap.size = g) (t : TypeId) (A B : Option Addr) (n c n1 c1 : Nat) (l l1 : List Int) (hb : But S (w.alloc (.cells #[.slice A n c, .slice B n1 c1] t)) w') (hS : ¬ S g)
    (hc : n ≤ c ∧ c ≤ maxLen) (hc1 : n1 ≤ c1 ∧ c1 ≤ maxLen) (h : Rd w A n l) (h1 : Rd w B n1 l1) (s : ∀ k o, A = some ⟨k, o, none⟩ → ¬ S k) (s1 : ∀ k o, B = some ⟨k, o, none⟩ → 0 < n1 → ¬ S k) :
    RdL w' (some ⟨g, 0, none⟩) 2 [l, l1] := by
  have := h.len; have := h1.len
  subst n n1
  refine RdL.rowBut w w' g hg t [.slice A l.length c, .slice B l1.length c1] _ 2 rfl hb hS (fun i hi => ?_)
  match i, hi with
  | 0, _ => exact ⟨A, c, rfl, hc.1, hc.2, h, fun k o e _ => s k o e⟩
  | 1, _ => exact ⟨B, c1, rfl, hc1.1, hc1.2, h1, fun k o e h0 => s1 k o e h0⟩
theorem RdL.threeU (w : World) (g : Nat) (hg : w.heap.size = g) (t : TypeId) (A B C : Option Addr) (n c n1 c1 n2 c2 : Nat) (l l1 l2 : List Int)
    (hc : n ≤ c ∧ c ≤ maxLen) (hc1 : n1 ≤ c1 ∧ c1 ≤ maxLen) (hc2 : n2 ≤ c2 ∧ c2 ≤ maxLen) (h : Rd w A n l) (h1 : Rd w B n1 l1) (h2 : Rd w C n2 l2) :
    RdL (w.alloc (.cells #[.slice A n c, .slice B n1 c1, .slice C n2 c2] t)) (some ⟨g, 0, none⟩) 3 [l, l1, l2] :=
  RdL.threeBut (S := fun _ => False) w _ g hg t A B C n c n1 c1 n2 c2 l l1 l2 (But.refl _ _) (fun h => h) hc hc1 hc2 h h1 h2 (fun _ _ _ h => h) (fun _ _ _ h => h) (fun _ _ _ h => h)

def UPutBad (w : World) (e : Ending) (w' : World) : Prop := e = .returned (.tuple #[.slice none 0 0, .int .i64 3]) ∧ Below w.heap.size w w'
def UPutOk (m : Nat) (l : List Int) (w : World) (e : Ending) (w' : World) : Prop :=
  ∃ A c, e = .returned (.tuple #[.slice A m c, .int .i64 0]) ∧ m ≤ c ∧ c ≤ maxLen ∧ OwnB w' w.heap.size A m c l ∧ Below w.heap.size w w'

theorem uput_bad (src dst sp dp : Int) (A : Option Addr) (n c : Nat) (w : World) (hn : 1472 < n) :
    Calls Tryz.prog 59 #[.int .u32 src, .int .u32 dst, .agg #[.int .u16 sp, .int .u16 dp, .slice A n c]] w (UPutBad w) := by
  have hni : (1472 : Int) < (n : Int) := by omega
  have Hb := Lib.hid ((Below.refl w.heap.size w).alloc (Nat.le_refl _) (.cells #[.int .u16 sp, .int .u16 dp, .slice A n c] 31))
  go_enter Tryz.func59, Tryz.ntmps59
  go_wp2_with fail
  go_ret2
  exact ⟨rfl, Hb.out⟩

theorem cells3 {w : World} {g : Nat} {u0 u1 u2 : Value} {t : TypeId} (h : w.heap[g]? = some (.cells #[u0, u1, u2] t (0, 0))) : w.cell? ⟨g, 0, none⟩ = some u0 ∧ w.cell? ⟨g, 1, none⟩ = some u1 ∧ w.cell? ⟨g, 2, none⟩ = some u2 := ⟨by rw [blk_cell h]; rfl, by rw [blk_cell h]; rfl, by rw [blk_cell h]; rfl⟩
theorem apt {A : Option Addr} {B m p : Nat} (h : ∃ g, A = some ⟨g, 0, none⟩ ∧ B ≤ g ∧ g < m) (hp : p < B) : ∀ k o, A = some ⟨k, o, none⟩ → ¬ (k = p ∨ none = some (⟨k, 0, none⟩ : Addr)) := by
  obtain ⟨g, rfl, h1, _⟩ := h
  intro k o e hh
  injection e with e
  injection e with e _
  rcases hh with hh | hh
  · omega
  · cases hh

theorem uput_ok (src dst : Int) (s : Dg) (A : Option Addr) (n c : Nat) (w : World) (hnum : DgNum s) (hc : n ≤ c ∧ c ≤ maxLen) (hr : Rd w A n s.d) (hn : n ≤ 1472) :
    Calls Tryz.prog 59 #[.int .u32 src, .int .u32 dst, .agg #[.int .u16 s.sp, .int .u16 s.dp, .slice A n c]] w (UPutOk (8 + n) (dgB src dst s) w) := by
  have hmf : ∀ (fn : Fn) (first cap : Array Value) (w : World), (Instr.makeFunc fn first cap).run Tryz.prog w = .ok (.func fn first cap) w := fun _ _ _ _ => rfl
  obtain ⟨sp, dp, d⟩ := s
  simp only at hr ⊢
  have hni : (n : Int) ≤ 1472 := by omega
  have hlen := hr.len
  obtain ⟨z, hz⟩ : ∃ z, w.heap.size = z := ⟨_, rfl⟩
  have hk := heap_alloc_new w (.cells #[.int .u16 sp, .int .u16 dp, .slice A n c] 31)
  have hx := Box.new (w.alloc (.cells #[.int .u16 sp, .int .u16 dp, .slice A n c] 31)) 24 (.slice none 0 0)
  have hb0 := ((Below.refl w.heap.size w).alloc (Nat.le_refl _) (.cells #[.int .u16 sp, .int .u16 dp, .slice A n c] 31)).alloc (by simp) (.cells #[.slice none 0 0] 24)
  have hk1 := (Below.heap_alloc _ (.cells #[.slice none 0 0] 24) _ (lt_of_block hk)).trans hk
  obtain ⟨w1, ew1⟩ : ∃ w1, ((w.alloc (.cells #[.int .u16 sp, .int .u16 dp, .slice A n c] 31)).alloc (.cells #[.slice none 0 0] 24)) = w1 := ⟨_, rfl⟩
  have hs1 : w1.heap.size = z + 2 := by rw [← ew1, ← hz]; simp
  have hx1 : Box w1 (z + 1) 24 (.slice none 0 0) := by rw [← ew1, ← hz]; simpa using hx
  rw [ew1] at hb0 hk1
  rw [hz] at hk1
  have Hk0 := Lib.hid hk1
  have Hx0 := Lib.hid hx1
  have Hb0 := Lib.hid hb0
  have Hd0 := Lib.hid (hr.below hb0)
  have Hdz := Lib.hid (show ∀ k o, A = some ⟨k, o, none⟩ → 0 < n → k < z from fun k o e h0 => by
    obtain ⟨b, o', e', hlt, _⟩ := hr.at_ h0
    rw [e] at e'; injection e' with e'; injection e' with e' _; omega)
  have Hc := Lib.hid hc
  have Hnum := Lib.hid hnum
  have Hlen := Lib.hid hlen
  have Hs1 := Lib.hid hs1
  have Hz := Lib.hid hz
  have hw16 : IntKind.u16.wrap (8 + (n : Int)) = 8 + (n : Int) := by simp [IntKind.wrap, IntKind.bits, IntKind.signed]; omega
  have Hlg := Lib.hid (show 0 ≤ 8 + (n : Int) ∧ 8 + (n : Int) < 65536 by omega)
  clear hk hx hb0 hk1 hx1 hr hc hnum hlen hs1
  go_enter Tryz.func59, Tryz.ntmps59
  obtain ⟨q0, q1, q2⟩ := cells3 Hk0.out
  go_wp2_with fail
  refine wp_region_held_drew (S := fun w' => w'.cell? ⟨z, 0, none⟩ = some (.int .u16 sp) ∧ w'.cell? ⟨z, 1, none⟩ = some (.int .u16 dp) ∧ w'.cell? ⟨z, 2, none⟩ = some (.slice A n c)) (by kernel_rfl) (cells3 Hk0.out) (fun hHeld => ?_)
  have hdr : Below w1.heap.size w1 w1.drew := Below.drew (Below.refl _ _)
  have Hk1 := Lib.hid (blk_on Hk0.out hdr)
  have Hx1 := Lib.hid (Hx0.out.below hdr (by have := Hs1.out; omega))
  have Hd1 := Lib.hid (Hd0.out.below hdr)
  have Hb1 := Lib.hid (below_trans Hb0.out hdr)
  have Hs1 := Lib.hid (show w1.drew.heap.size = z + 2 from Hs1.out)
  clear hdr q0 q1 q2
  obtain ⟨wd, ewd⟩ : ∃ wd, w1.drew = wd := ⟨_, rfl⟩
  rw [ewd] at Hk1 Hx1 Hd1 Hb1 Hs1 hHeld ⊢
  clear ewd
  refine tk 0 ?_ rfl ?_ ?_
  rotate_left
  · intro w' hSw; (go_simp <;> (with_reducible rfl))
  try simp only [Act.put, putL]
  refine tk 1 ?_ rfl ?_ ?_
  rotate_left
  · intro w' hSw; (go_simp <;> (with_reducible rfl))
  try simp only [Act.put, putL]
  refine tk 2 ?_ rfl ?_ ?_
  rotate_left
  · intro w' hSw; (go_simp <;> (with_reducible rfl))
  try simp only [Act.put, putL]
  refine tk 4 ?_ rfl ?_ ?_
  rotate_left
  · intro w' hSw; (go_simp <;> (with_reducible rfl))
  try simp only [Act.put, putL]
  refine tk 5 ?_ rfl ?_ ?_
  rotate_left
  · intro w' hSw; (go_simp <;> (with_reducible rfl))
  try simp only [Act.put, putL]
  refine tk 7 ?_ rfl ?_ ?_
  rotate_left
  · intro w' hSw; (go_simp <;> (with_reducible rfl))
  try simp only [Act.put, putL]
  refine tk 8 ?_ rfl ?_ ?_
  rotate_left
  · intro w' hSw; (go_simp <;> (with_reducible rfl))
  try simp only [Act.put, putL]
  refine tkC 3 rfl (fun K hK => ?_)
  go_simp
  (go_at_call 106; refine (word_row sp _ Hnum.out.sp).mono ?_; rintro e w2 ⟨A2, c2, rfl, k2, m2, ho2, hb2⟩; have Hr2 := Lib.hid (ho2.rd (be16_bytes Hnum.out.sp)); have Hs2 := Lib.hid (ho2.addr (by omega)); have Hk2 := Lib.hid (blk_on Hk1.out hb2); have Hb2 := Lib.hid hb2; clear ho2 hb2)
  refine hK.out _ _ ?_ (fun hHeld => ?_)
  · exact cells3 Hk2.out
  clear hK K
  try simp only [Act.put, putL]
  refine tkC 6 rfl (fun K hK => ?_)
  go_simp
  (go_at_call 106; refine (word_row dp _ Hnum.out.dp).mono ?_; rintro e w3 ⟨A3, c3, rfl, k3, m3, ho3, hb3⟩; have Hr3 := Lib.hid (ho3.rd (be16_bytes Hnum.out.dp)); have Hs3 := Lib.hid (ho3.addr (by omega)); have Hk3 := Lib.hid (blk_on Hk2.out hb3); have Hb3 := Lib.hid hb3; clear ho3 hb3)
  refine hK.out _ _ ?_ (fun hHeld => ?_)
  · exact cells3 Hk3.out
  clear hK K
  try simp only [Act.put, putL]
  refine tkC 9 rfl (fun K hK => ?_)
  go_simp
  (go_at_call 106; refine (word_row (8 + (n : Int)) _ Hlg.out).mono ?_; rintro e w4 ⟨A4, c4, rfl, k4, m4, ho4, hb4⟩; have Hr4 := Lib.hid (ho4.rd (be16_bytes Hlg.out)); have Hs4 := Lib.hid (ho4.addr (by omega)); have Hk4 := Lib.hid (blk_on Hk3.out hb4); have Hb4 := Lib.hid hb4; clear ho4 hb4)
  refine hK.out _ _ ?_ (fun hHeld => ?_)
  · exact cells3 Hk4.out
  clear hK K
  try simp only [Act.put, putL]
  refine tkC 10 rfl (fun K hK => ?_)
  go_simp
  skip
  refine hK.out _ _ ?_ (fun hHeld => ?_)
  · exact cells3 (blk_on Hk4.out ((Below.refl _ _).alloc (Nat.le_refl _) _))
  clear hK K
  try simp only [Act.put, putL]
  refine tkC 11 rfl (fun K hK => ?_)
  go_simp
  (go_at_call 105; refine (ulay_any (z + 2) (z + 1) _ 3 3 [be16 sp, be16 dp, be16 (8 + (n : Int))] none 0 0 [] 6 _ (by omega) (by omega) (by have := Hs1.out; have := Hb2.out.size; have := Hb3.out.size; have := Hb4.out.size; simp; omega) (((((Hx1.out.below Hb2.out (by have := Hs1.out; omega)).below Hb3.out (by have := Hs1.out; have := Hb2.out.size; omega)).below Hb4.out (by have := Hs1.out; have := Hb2.out.size; have := Hb3.out.size; omega))).alloc _) (OwnB.nil _ _) (fun w' hb => RdL.threeBut w4 w' _ rfl 24 A2 A3 A4 2 c2 2 c3 2 c4 _ _ _ hb (by have := Hs1.out; have := Hb2.out.size; have := Hb3.out.size; have := Hb4.out.size; simp; omega) ⟨k2, m2⟩ ⟨k3, m3⟩ ⟨k4, m4⟩ ((Hr2.out.below Hb3.out).below Hb4.out) (Hr3.out.below Hb4.out) Hr4.out (apt Hs2.out (by have := Hs1.out; omega)) (apt Hs3.out (by have := Hs1.out; have := Hb2.out.size; omega)) (apt Hs4.out (by have := Hs1.out; have := Hb2.out.size; have := Hb3.out.size; omega))) (by simp [be16]) (by omega)).mono ?_; rintro e w5 ⟨rfl, ⟨A5, c5, hx5, ho5⟩, hb5⟩; have Hk5 := Lib.hid (hb5.blk (blk_on Hk4.out ((Below.refl _ _).alloc (Nat.le_refl _) _)) (by simp)); have Hx5 := Lib.hid hx5; have Ho5 := Lib.hid ho5; have Hb5 := Lib.hid hb5; clear hx5 ho5 hb5)
  refine hK.out _ _ ?_ (fun hHeld => ?_)
  · exact cells3 Hk5.out
  clear hK K
  try simp only [Act.put, putL]
  refine wpAnyH_done (by kernel_rfl) ?_ _
  have Hsz := Lib.hid (show z + 2 ≤ w4.heap.size by have := Hs1.out; have := Hb2.out.size; have := Hb3.out.size; have := Hb4.out.size; omega)
  have Hba := Lib.hid (below_trans Hb1.out (below_trans Hb2.out (below_trans Hb3.out (below_trans Hb4.out ((Below.refl _ _).alloc (Nat.le_refl _) (.cells #[.slice A2 2 c2, .slice A3 2 c3, .slice A4 2 c4] 24))))))
  have Hd5 := Lib.hid ((((((Hd1.out.below Hb2.out).below Hb3.out).below Hb4.out).below ((Below.refl _ _).alloc (Nat.le_refl _) (.cells #[.slice A2 2 c2, .slice A3 2 c3, .slice A4 2 c4] 24))).but Hb5.out (fun g o e h0 hh => by
    have := Hdz.out g o e h0
    rcases hh with hh | hh
    · omega
    · cases hh)))
  have Hbw := Lib.hid (Hba.out.trans (Hb5.out.below (B := w.heap.size) (fun k hk => by
    have := Hz.out
    rcases hk with hk | hk
    · omega
    · cases hk) (by have := Hsz.out; have := Hz.out; simp; omega)))
  have hf : ([] ++ [be16 sp, be16 dp, be16 (8 + (n : Int))].flatten : List Int) = hdU ⟨sp, dp, d⟩ := by simp [hdU, Hlen.out]
  rw [hf, show 0 + 6 = 6 from rfl] at Ho5
  rw [show 0 + 6 = 6 from rfl] at Hx5
  have Hr5 := Lib.hid (Ho5.out.rd (hdU_bytes Hnum.out (by have := Hlen.out; show d.length ≤ 1472; omega)))
  have Hc5 := Lib.hid (And.intro Ho5.out.cap Ho5.out.capMax)
  have Hs5 := Lib.hid (show z + 2 ≤ w5.heap.size by have := Hsz.out; have := Hb5.out.size; simp at this; omega)
  obtain ⟨fd, efd⟩ : ∃ fd, fieldU src dst ⟨sp, dp, d⟩ = fd := ⟨_, rfl⟩
  have Hfdb := Lib.hid (show 0 ≤ fd ∧ fd < 65536 by rw [← efd]; have : 0 < fieldU src dst ⟨sp, dp, d⟩ ∧ fieldU src dst ⟨sp, dp, d⟩ < 65536 := fldU_bd _; omega)
  have Hfd := Lib.hid (show fldU ([pseudoL src dst 17 (8 + (n : Int)), hdU ⟨sp, dp, d⟩, d] : List (List Int)).flatten = fd by rw [← efd]; unfold fieldU; rw [Hlen.out]; simp)
  have Efd := Lib.hid efd
  clear efd hf Hk1 Hk2 Hk3 Hk4 Hx1 Hd1 Hb1 Hs1 Hs2 Hs3 Hs4 Hr2 Hr3 Hr4 Hb2 Hb3 Hb4 Hb5 Hba Hsz hHeld k2 m2 k3 m3 k4 m4
  obtain ⟨A5v, eA5⟩ : ∃ A5v, A5 = A5v := ⟨_, rfl⟩
  subst eA5
  go_wp2_with fail
  refine wp_region_held_drew (S := fun w' => w'.cell? ⟨z, 0, none⟩ = some (.int .u16 sp) ∧ w'.cell? ⟨z, 1, none⟩ = some (.int .u16 dp) ∧ w'.cell? ⟨z, 2, none⟩ = some (.slice A n c) ∧ w'.cell? ⟨z + 1, 0, none⟩ = some (.slice A5 6 c5)) (by kernel_rfl) ⟨(cells3 Hk5.out).1, (cells3 Hk5.out).2.1, (cells3 Hk5.out).2.2, Box.cell Hx5.out⟩ (fun hHeld => ?_)
  have hdr : Below w5.heap.size w5 w5.drew := Below.drew (Below.refl _ _)
  have Hk5 := Lib.hid (blk_on Hk5.out hdr)
  have Hx5 := Lib.hid (blk_on Hx5.out hdr)
  have Ho5 := Lib.hid (Ho5.out.on hdr)
  have Hr5 := Lib.hid (Hr5.out.below hdr)
  have Hd5 := Lib.hid (Hd5.out.below hdr)
  have Hbw := Lib.hid (below_trans Hbw.out hdr)
  have Hs5 := Lib.hid (show z + 2 ≤ w5.drew.heap.size from Hs5.out)
  clear hdr
  obtain ⟨we, ewe⟩ : ∃ we, w5.drew = we := ⟨_, rfl⟩
  rw [ewe] at Hk5 Hx5 Ho5 Hr5 Hd5 Hbw Hs5 hHeld ⊢
  clear ewe
  refine tk 0 ?_ rfl ?_ ?_
  rotate_left
  · intro w' hSw; (go_simp <;> (with_reducible rfl))
  try simp only [Act.put, putL]
  refine tk 1 ?_ rfl ?_ ?_
  rotate_left
  · intro w' hSw; (go_simp <;> (with_reducible rfl))
  try simp only [Act.put, putL]
  refine tk 2 ?_ rfl ?_ ?_
  rotate_left
  · intro w' hSw; (go_simp <;> (with_reducible rfl))
  try simp only [Act.put, putL]
  refine tk 4 ?_ rfl ?_ ?_
  rotate_left
  · intro w' hSw; (go_simp <;> (with_reducible rfl))
  try simp only [Act.put, putL]
  refine tk 5 ?_ rfl ?_ ?_
  rotate_left
  · intro w' hSw; (go_simp <;> (with_reducible rfl))
  try simp only [Act.put, putL]
  refine tk 6 ?_ rfl ?_ ?_
  rotate_left
  · intro w' hSw; (go_simp <;> (with_reducible rfl))
  try simp only [Act.put, putL]
  refine tkC 3 rfl (fun K hK => ?_)
  go_simp
  (go_at_call 104; refine (pseudo_any src dst 17 (8 + (n : Int)) _ (by omega)).mono ?_; rintro e w6 ⟨A6, c6, rfl, k6, m6, ho6, hb6⟩; have Hr6 := Lib.hid (ho6.rd (pseudo_byte _ _ _ _ (by omega))); have Hk6 := Lib.hid (blk_on Hk5.out hb6); have Hx6 := Lib.hid (blk_on Hx5.out hb6); have Hb6 := Lib.hid hb6; clear ho6 hb6)
  refine hK.out _ _ ?_ (fun hHeld => ?_)
  · exact ⟨(cells3 Hk6.out).1, (cells3 Hk6.out).2.1, (cells3 Hk6.out).2.2, Box.cell Hx6.out⟩
  clear hK K
  try simp only [Act.put, putL]
  refine tkC 7 rfl (fun K hK => ?_)
  go_simp
  skip
  refine hK.out _ _ ?_ (fun hHeld => ?_)
  · exact ⟨(cells3 (blk_on Hk6.out ((Below.refl _ _).alloc (Nat.le_refl _) _))).1, (cells3 (blk_on Hk6.out ((Below.refl _ _).alloc (Nat.le_refl _) _))).2.1, (cells3 (blk_on Hk6.out ((Below.refl _ _).alloc (Nat.le_refl _) _))).2.2, Box.cell (Box.alloc Hx6.out _)⟩
  clear hK K
  try simp only [Act.put, putL]
  refine tkC 8 rfl (fun K hK => ?_)
  go_simp
  (go_at_call 107; refine (fieldof_any _ 3 3 [pseudoL src dst 17 (8 + (n : Int)), hdU ⟨sp, dp, d⟩, d] _ fd (by omega) (RdL.threeU w6 _ rfl 24 A6 A5 A 12 c6 6 c5 n c _ _ _ ⟨k6, m6⟩ Hc5.out Hc.out Hr6.out (Hr5.out.below Hb6.out) (Hd5.out.below Hb6.out)) Hfd.out).mono ?_; rintro e w7 ⟨rfl, hb7⟩; have Hbb7 := Lib.hid (on_alloc hb7); have Hk7 := Lib.hid (blk_on Hk6.out Hbb7.out); have Hx7 := Lib.hid (blk_on Hx6.out Hbb7.out); clear hb7)
  refine hK.out _ _ ?_ (fun hHeld => ?_)
  · exact ⟨(cells3 Hk7.out).1, (cells3 Hk7.out).2.1, (cells3 Hk7.out).2.2, Box.cell Hx7.out⟩
  clear hK K
  try simp only [Act.put, putL]
  refine tk 9 ?_ rfl ?_ ?_
  rotate_left
  · intro w' hSw; (go_simp <;> (with_reducible rfl))
  try simp only [Act.put, putL]
  refine wpAnyH_done (by kernel_rfl) ?_ _
  have Hs7 := Lib.hid (show z + 2 ≤ w7.heap.size by have := Hs5.out; have := Hb6.out.size; have := Hbb7.out.size; omega)
  have Hd7 := Lib.hid ((Hd5.out.below Hb6.out).below Hbb7.out)
  have Ho7 := Lib.hid ((Ho5.out.on Hb6.out).on Hbb7.out)
  have Hb7 := Lib.hid (below_trans Hbw.out (below_trans Hb6.out Hbb7.out))
  clear Hk5 Hx5 Hd5 Hs5 Ho5 Hbw Hk6 Hx6 Hb6 Hbb7 Hr5 Hr6 hHeld k6 m6
  go_wp2_with fail
  refine wp_region_held_drew (S := fun w' => w'.cell? ⟨z, 0, none⟩ = some (.int .u16 sp) ∧ w'.cell? ⟨z, 1, none⟩ = some (.int .u16 dp) ∧ w'.cell? ⟨z, 2, none⟩ = some (.slice A n c)) (by kernel_rfl) (cells3 Hk7.out) (fun hHeld => ?_)
  have hdr : Below w7.heap.size w7 w7.drew := Below.drew (Below.refl _ _)
  have Hk7 := Lib.hid (blk_on Hk7.out hdr)
  have Hx7 := Lib.hid (blk_on Hx7.out hdr)
  have Ho7 := Lib.hid (Ho7.out.on hdr)
  have Hd7 := Lib.hid (Hd7.out.below hdr)
  have Hb7 := Lib.hid (below_trans Hb7.out hdr)
  have Hs7 := Lib.hid (show z + 2 ≤ w7.drew.heap.size from Hs7.out)
  clear hdr
  obtain ⟨wf, ewf⟩ : ∃ wf, w7.drew = wf := ⟨_, rfl⟩
  rw [ewf] at Hk7 Hx7 Ho7 Hd7 Hb7 Hs7 hHeld ⊢
  clear ewf
  have Ha7 := Lib.hid (Ho7.out.addr (by omega))
  have Hg8 := Lib.hid (show ∀ k, wf.heap.size ≤ k → ¬ (k = z + 1 ∨ A5 = some ⟨k, 0, none⟩) from fun k hk hh => by
    have := Hs7.out
    rcases hh with hh | hh
    · omega
    · obtain ⟨g, e, _, _⟩ := Ha7.out; rw [e] at hh; injection hh with hh; injection hh with hh; omega)
  have Hg9 := Lib.hid (show ∀ k, k ≤ z → ¬ (k = z + 1 ∨ A5 = some ⟨k, 0, none⟩) from fun k hk hh => by
    rcases hh with hh | hh
    · omega
    · obtain ⟨g, e, _, _⟩ := Ha7.out; rw [e] at hh; injection hh with hh; injection hh with hh; omega)
  refine tk 0 ?_ rfl ?_ ?_
  rotate_left
  · intro w' hSw; (go_simp <;> (with_reducible rfl))
  try simp only [Act.put, putL]
  refine tk 1 ?_ rfl ?_ ?_
  rotate_left
  · intro w' hSw; (go_simp <;> (with_reducible rfl))
  try simp only [Act.put, putL]
  refine tk 3 ?_ rfl ?_ ?_
  rotate_left
  · intro w' hSw; (go_simp <;> (with_reducible rfl))
  try simp only [Act.put, putL]
  refine tk 4 ?_ rfl ?_ ?_
  rotate_left
  · intro w' hSw; (go_simp <;> (with_reducible rfl))
  try simp only [Act.put, putL]
  refine tkC 2 rfl (fun K hK => ?_)
  go_simp
  (go_at_call 106; refine (word_row fd _ Hfdb.out).mono ?_; rintro e w8 ⟨A8, c8, rfl, k8, m8, ho8, hb8⟩; have Hr8 := Lib.hid (ho8.rd (be16_bytes Hfdb.out)); have Hs8 := Lib.hid (ho8.addr (by omega)); have Hk8 := Lib.hid (blk_on Hk7.out hb8); have Hx8 := Lib.hid (blk_on Hx7.out hb8); have Hb8 := Lib.hid hb8; clear ho8 hb8)
  refine hK.out _ _ ?_ (fun hHeld => ?_)
  · exact cells3 Hk8.out
  clear hK K
  try simp only [Act.put, putL]
  refine tkC 5 rfl (fun K hK => ?_)
  go_simp
  skip
  refine hK.out _ _ ?_ (fun hHeld => ?_)
  · exact cells3 (blk_on Hk8.out ((Below.refl _ _).alloc (Nat.le_refl _) _))
  clear hK K
  try simp only [Act.put, putL]
  refine tkC 6 rfl (fun K hK => ?_)
  go_simp
  (go_at_call 105; refine (ulay_any (z + 2) (z + 1) _ 2 2 [be16 fd, d] A5 6 c5 (hdU ⟨sp, dp, d⟩) (2 + n) _ (by omega) (by omega) (by have := Hs7.out; have := Hb8.out.size; simp; omega) (Box.alloc Hx8.out _) ((Ho7.out.on Hb8.out).alloc _) (fun w' hb => RdL.twoBut w8 w' _ rfl 24 A8 A 2 c8 n c _ _ hb (Hg8.out _ (by have := Hb8.out.size; omega)) ⟨k8, m8⟩ Hc.out Hr8.out (Hd7.out.below Hb8.out) (fun k o e => Hg8.out k (by obtain ⟨g8, e8, h8, _⟩ := Hs8.out; rw [e8] at e; injection e with e; injection e with e; omega)) (fun k o e h0 => Hg9.out k (Nat.le_of_lt (Hdz.out k o e h0)))) (by have := Hlen.out; simp [be16]; omega) (by omega)).mono ?_; rintro e w9 ⟨rfl, ⟨A9, c9, hx9, ho9⟩, hb9⟩; have Hk9 := Lib.hid (hb9.blk (blk_on Hk8.out ((Below.refl _ _).alloc (Nat.le_refl _) _)) (Hg9.out z (by omega))); have Hx9 := Lib.hid hx9; have Ho9 := Lib.hid ho9; have Hb9 := Lib.hid hb9; clear hx9 ho9 hb9)
  refine hK.out _ _ ?_ (fun hHeld => ?_)
  · exact cells3 Hk9.out
  clear hK K
  try simp only [Act.put, putL]
  refine wpAnyH_done (by kernel_rfl) ?_ _
  have hx9 := Box.cell Hx9.out
  have hl9 : (hdU ⟨sp, dp, d⟩ ++ [be16 fd, d].flatten : List Int) = dgB src dst ⟨sp, dp, d⟩ := by unfold dgB; rw [Efd.out]; simp
  rw [hl9, show 6 + (2 + n) = 8 + n by omega] at Ho9
  rw [show 6 + (2 + n) = 8 + n by omega] at Hx9
  rw [show 6 + (2 + n) = 8 + n by omega] at hx9
  have Hbz := Lib.hid ((below_trans Hb7.out (below_trans Hb8.out ((Below.refl _ _).alloc (Nat.le_refl _) (.cells #[.slice A8 2 c8, .slice A n c] 24)))).trans (Hb9.out.below (B := w.heap.size) (fun k hk => by
    have := Hz.out
    rcases hk with hk | hk
    · omega
    · obtain ⟨g, e, _, _⟩ := Ha7.out; rw [e] at hk; injection hk with hk; injection hk with hk; omega) (by have := Hs7.out; have := Hb8.out.size; have := Hz.out; simp; omega)))
  clear Hk7 Hx7 Ho7 Hd7 Hb7 Hs7 Ha7 Hg8 Hg9 Hk8 Hx8 Hb8 Hs8 Hr8 k8 m8 Hb9 Hk9 Hx9 hHeld hl9
  go_wp2_with fail
  go_ret2
  exact ⟨A9, c9, rfl, Ho9.out.cap, Ho9.out.capMax, Ho9.out.mono (by have := Hz.out; omega), Hbz.out⟩
end Go.Proofs.YtoegfgbalcholaaGreat

/-
  The contract of the closure within package udp's Parse: what is wrong is told in the document's own order; else the datagram, its data in a row of the call's own.
-/
namespace Go.Proofs.YtoegfgbalcholaaGreat
set_option maxRecDepth 10000
open Go.RowKit

def n16 (b : List Int) (i : Nat) : Int := b.getD i 0 * 256 + b.getD (i + 1) 0
/-- What is wrong with bytes that should be a datagram; 0: nothing. -/
def errU (src dst : Int) (b : List Int) : Int :=
  if 1480 < b.length then 3 else if b.length < 8 then 4 else if n16 b 4 ≠ (b.length : Int) then 5 else if n16 b 6 ≠ 0 ∧ sumL (pseudoL src dst 17 b.length ++ b) ≠ 65535 then 20 else 0
def dgOf (b : List Int) : Dg := ⟨n16 b 0, n16 b 2, b.drop 8⟩
def zeroU : Array Value := #[.int .u16 0, .int .u16 0, .slice none 0 0]
/-- What Parse's closure leaves. -/
def DgR (q : Nat) (src dst : Int) (b : List Int) (w1 : World) (x : Int) (w' : World) : Prop :=
  x = errU src dst b ∧ ((x ≠ 0 ∧ w'.heap[q]? = some (.cells zeroU 31 (0, 0))) ∨
    (x = 0 ∧ ∃ AD cD, w'.heap[q]? = some (.cells #[.int .u16 (dgOf b).sp, .int .u16 (dgOf b).dp, .slice AD (b.length - 8) cD] 31 (0, 0)) ∧ OwnB w' w1.heap.size AD (b.length - 8) cD (b.drop 8)))

theorem set3_blk {w : World} {q : Nat} {u0 u1 u2 : Value} {t : TypeId} (h : w.heap[q]? = some (.cells #[u0, u1, u2] t (0, 0))) (v0 v1 v2 : Value) :
    (((w.setCell ⟨q, 0, none⟩ v0).setCell ⟨q, 1, none⟩ v1).setCell ⟨q, 2, none⟩ v2).heap[q]? = some (.cells #[v0, v1, v2] t (0, 0)) := by
  have h1 := setCell_block (i := 0) h v0
  have h2 := setCell_block (i := 1) h1 v1
  have h3 := setCell_block (i := 2) h2 v2
  simpa using h3
theorem set3_but (w : World) (q : Nat) (v0 v1 v2 : Value) : But (fun k => k = q) w (((w.setCell ⟨q, 0, none⟩ v0).setCell ⟨q, 1, none⟩ v1).setCell ⟨q, 2, none⟩ v2) :=
  (((But.refl (fun k => k = q) w).setCell (p := ⟨q, 0, none⟩) rfl _).setCell (p := ⟨q, 1, none⟩) rfl _).setCell (p := ⟨q, 2, none⟩) rfl _
theorem eight (b : List Int) (h : 8 ≤ b.length) : ∃ b0 b1 b2 b3 b4 b5 b6 b7 l, b = b0 :: b1 :: b2 :: b3 :: b4 :: b5 :: b6 :: b7 :: l := by
  match b, h with
  | b0 :: b1 :: b2 :: b3 :: b4 :: b5 :: b6 :: b7 :: l, _ => exact ⟨b0, b1, b2, b3, b4, b5, b6, b7, l, rfl⟩

theorem uparse1_short (B g p1 p2 p3 q n : Nat) (src dst : Int) (l : List Int) (w : World) (hB : q < B) (hl : n < 8) (hlen : l.length = n)
    (hq : w.heap[q]? = some (.cells zeroU 31 (0, 0))) (h : Rdr w B g l 0) :
    Calls Tryz.prog 112 #[.pointer (some ⟨g, 0, none⟩), .pointer (some ⟨p3, 0, none⟩), .pointer (some ⟨p1, 0, none⟩), .pointer (some ⟨p2, 0, none⟩), .pointer (some ⟨q, 0, none⟩)] w
      (Did (fun k => k = q) g (DgR q src dst l w) w) := by
  have hg : B ≤ g := h.choose_spec.choose_spec.choose_spec.2.2.2.1.1
  have Hend := Lib.hid (show ∀ w', Gave w' g 4 → But (fun k => k = g) w w' → Did (fun k => k = q) g (DgR q src dst l w) w (.panicked (gaveUp g)) w' from fun w' ⟨A', n', c', a', hg1⟩ hb =>
    ⟨4, A', n', c', a', .inr rfl, hg1, hb.mono (fun _ _ hk => .inr hk), by unfold errU; rw [if_neg (by omega), if_pos (by omega)], .inl ⟨by decide, hb.blk hq (by omega)⟩⟩)
  have Hr := Lib.hid h
  have Hlen := Lib.hid hlen
  have Hl := Lib.hid hl
  have Hb := Lib.hid (But.refl (fun k => k = g) w)
  clear h hq hlen hl
  go_enter Tryz.func112, Tryz.ntmps112
  go_wp2_with fail
  have Hl := Hl.out
  rcases l with _ | ⟨b0, l⟩
  · refine (u16_short B g [] _ _ (by simp) Hr.out).mono ?_
    rintro e w' ⟨rfl, hg1, hb⟩
    exact ⟨rfl, Hend.out w' hg1 (Hb.out.trans hb)⟩
  rcases l with _ | ⟨b1, l⟩
  · refine (u16_short B g [b0] _ _ (by simp) Hr.out).mono ?_
    rintro e w' ⟨rfl, hg1, hb⟩
    exact ⟨rfl, Hend.out w' hg1 (Hb.out.trans hb)⟩
  refine (u16_told B g b0 b1 l _ _ Hr.out).mono ?_
  rintro e w1 ⟨rfl, hR, hb⟩
  have Hr := Lib.hid hR
  have Hb := Lib.hid (Hb.out.trans hb)
  clear hR hb
  go_wp2_with fail
  rcases l with _ | ⟨b2, l⟩
  · refine (u16_short B g [] _ _ (by simp) Hr.out).mono ?_
    rintro e w' ⟨rfl, hg1, hb⟩
    exact ⟨rfl, Hend.out w' hg1 (Hb.out.trans hb)⟩
  rcases l with _ | ⟨b3, l⟩
  · refine (u16_short B g [b2] _ _ (by simp) Hr.out).mono ?_
    rintro e w' ⟨rfl, hg1, hb⟩
    exact ⟨rfl, Hend.out w' hg1 (Hb.out.trans hb)⟩
  refine (u16_told B g b2 b3 l _ _ Hr.out).mono ?_
  rintro e w1 ⟨rfl, hR, hb⟩
  have Hr := Lib.hid hR
  have Hb := Lib.hid (Hb.out.trans hb)
  clear hR hb
  go_wp2_with fail
  rcases l with _ | ⟨b4, l⟩
  · refine (u16_short B g [] _ _ (by simp) Hr.out).mono ?_
    rintro e w' ⟨rfl, hg1, hb⟩
    exact ⟨rfl, Hend.out w' hg1 (Hb.out.trans hb)⟩
  rcases l with _ | ⟨b5, l⟩
  · refine (u16_short B g [b4] _ _ (by simp) Hr.out).mono ?_
    rintro e w' ⟨rfl, hg1, hb⟩
    exact ⟨rfl, Hend.out w' hg1 (Hb.out.trans hb)⟩
  refine (u16_told B g b4 b5 l _ _ Hr.out).mono ?_
  rintro e w1 ⟨rfl, hR, hb⟩
  have Hr := Lib.hid hR
  have Hb := Lib.hid (Hb.out.trans hb)
  clear hR hb
  go_wp2_with fail
  rcases l with _ | ⟨b6, l⟩
  · refine (u16_short B g [] _ _ (by simp) Hr.out).mono ?_
    rintro e w' ⟨rfl, hg1, hb⟩
    exact ⟨rfl, Hend.out w' hg1 (Hb.out.trans hb)⟩
  rcases l with _ | ⟨b7, l⟩
  · refine (u16_short B g [b6] _ _ (by simp) Hr.out).mono ?_
    rintro e w' ⟨rfl, hg1, hb⟩
    exact ⟨rfl, Hend.out w' hg1 (Hb.out.trans hb)⟩
  have h8 := Hlen.out
  simp at h8
  omega

set_option maxHeartbeats 4000000 in
theorem uparse1_ok (B g p1 p2 p3 q n c : Nat) (src dst : Int) (A : Option Addr) (b0 b1 b2 b3 b4 b5 b6 b7 : Int) (l : List Int) (w : World) (hB : p1 < B ∧ p2 < B ∧ p3 < B ∧ q < B ∧ p1 ≠ q ∧ p2 ≠ q ∧ p3 ≠ q) (hl : n ≤ 1480) (b : List Int) (eb : b = b0 :: b1 :: b2 :: b3 :: b4 :: b5 :: b6 :: b7 :: l) (hlen : b.length = n) (hc : n ≤ c ∧ c ≤ maxLen) (hAB : ∀ x o, A = some ⟨x, o, none⟩ → x < B) (hA : Rd w A n b)
    (hp1 : Box w p1 23 (.int .u32 src)) (hp2 : Box w p2 23 (.int .u32 dst)) (hp3 : Box w p3 24 (.slice A n c)) (hq : w.heap[q]? = some (.cells zeroU 31 (0, 0))) (h : Rdr w B g b 0) :
    Calls Tryz.prog 112 #[.pointer (some ⟨g, 0, none⟩), .pointer (some ⟨p3, 0, none⟩), .pointer (some ⟨p1, 0, none⟩), .pointer (some ⟨p2, 0, none⟩), .pointer (some ⟨q, 0, none⟩)] w
      (Did (fun k => k = q) g (DgR q src dst b w) w) := by
  have hg : B ≤ g := h.choose_spec.choose_spec.choose_spec.2.2.2.1.1
  have hgw : g < w.heap.size := lt_of_block h.choose_spec.choose_spec.choose_spec.2.2.2.2.2.1
  have hn8 : 8 ≤ n := by rw [← hlen, eb]; simp
  have hbyte := hA.byte
  have Hend := Lib.hid (show ∀ x w', x ≠ 0 → errU src dst b = x → Gave w' g x → But (fun k => k = g) w w' → Did (fun k => k = q) g (DgR q src dst b w) w (.panicked (gaveUp g)) w' from fun x w' h0 hx ⟨A', n', c', a', hg1⟩ hb =>
    ⟨x, A', n', c', a', .inr rfl, hg1, hb.mono (fun _ _ hk => .inr hk), hx.symm, .inl ⟨h0, hb.blk hq (by omega)⟩⟩)
  have Hof := Lib.hid (show dgOf b = ⟨b0 * 256 + b1, b2 * 256 + b3, l⟩ by rw [eb]; rfl)
  have H4 := Lib.hid (show n16 b 4 = b4 * 256 + b5 by rw [eb]; rfl)
  have H6 := Lib.hid (show n16 b 6 = b6 * 256 + b7 by rw [eb]; rfl)
  have Hbd := Lib.hid (show (0 ≤ b0 ∧ b0 < 256) ∧ (0 ≤ b1 ∧ b1 < 256) ∧ (0 ≤ b2 ∧ b2 < 256) ∧ (0 ≤ b3 ∧ b3 < 256) ∧ (0 ≤ b4 ∧ b4 < 256) ∧ (0 ≤ b5 ∧ b5 < 256) ∧ (0 ≤ b6 ∧ b6 < 256) ∧ (0 ≤ b7 ∧ b7 < 256) from
    ⟨hbyte _ (by rw [eb]; simp), hbyte _ (by rw [eb]; simp), hbyte _ (by rw [eb]; simp), hbyte _ (by rw [eb]; simp), hbyte _ (by rw [eb]; simp), hbyte _ (by rw [eb]; simp), hbyte _ (by rw [eb]; simp), hbyte _ (by rw [eb]; simp)⟩)
  have Hr := Lib.hid (show Rdr w B g (b0 :: b1 :: b2 :: b3 :: b4 :: b5 :: b6 :: b7 :: l) 0 by rw [← eb]; exact h)
  have Hp1 := Lib.hid hp1
  have Hp2 := Lib.hid hp2
  have Hp3 := Lib.hid hp3
  have Hq := Lib.hid hq
  have HA := Lib.hid hA
  have Hlen := Lib.hid hlen
  have Hll := Lib.hid (show l.length = n - 8 by rw [← hlen, eb]; simp)
  have Heb := Lib.hid (show b.drop 8 = l by rw [eb]; rfl)
  have Hlb := Lib.hid (show ∀ x ∈ l, 0 ≤ x ∧ x < 256 from fun x hx => hbyte x (by rw [eb]; simp [hx]))
  have Hb := Lib.hid (But.refl (fun k => k = g) w)
  clear h hp1 hp2 hp3 hq hA hlen hbyte eb
  go_enter Tryz.func112, Tryz.ntmps112
  go_wp2_with fail
  refine (u16_told B g b0 b1 (b2 :: b3 :: b4 :: b5 :: b6 :: b7 :: l) _ _ Hr.out).mono ?_
  rintro e w1 ⟨rfl, hR, hb⟩
  have Hr := Lib.hid hR
  have Hb := Lib.hid (Hb.out.trans hb)
  clear hR hb
  go_wp2_with fail
  refine (u16_told B g b2 b3 (b4 :: b5 :: b6 :: b7 :: l) _ _ Hr.out).mono ?_
  rintro e w1 ⟨rfl, hR, hb⟩
  have Hr := Lib.hid hR
  have Hb := Lib.hid (Hb.out.trans hb)
  clear hR hb
  go_wp2_with fail
  refine (u16_told B g b4 b5 (b6 :: b7 :: l) _ _ Hr.out).mono ?_
  rintro e w1 ⟨rfl, hR, hb⟩
  have Hr := Lib.hid hR
  have Hb := Lib.hid (Hb.out.trans hb)
  clear hR hb
  go_wp2_with fail
  refine (u16_told B g b6 b7 (l) _ _ Hr.out).mono ?_
  rintro e w1 ⟨rfl, hR, hb⟩
  have Hr := Lib.hid hR
  have Hb := Lib.hid (Hb.out.trans hb)
  clear hR hb
  have hpA : ∀ w', But (fun k => k = g) w w' → (w'.cell? ⟨p1, 0, none⟩ = some (.int .u32 src) ∧ w'.cell? ⟨p2, 0, none⟩ = some (.int .u32 dst) ∧ w'.cell? ⟨p3, 0, none⟩ = some (.slice A n c)) := fun w' hb => ⟨(Hp1.out.but hb (by omega)).cell, (Hp2.out.but hb (by omega)).cell, (Hp3.out.but hb (by omega)).cell⟩
  have HpA := Lib.hid hpA
  have hc3 := (HpA.out _ Hb.out).2.2
  clear hpA
  obtain ⟨N, eN⟩ : ∃ N, b4 * 256 + b5 = N := ⟨_, rfl⟩
  obtain ⟨F, eF⟩ : ∃ F, b6 * 256 + b7 = F := ⟨_, rfl⟩
  have hNb : 0 ≤ N ∧ N < 65536 := by have := Hbd.out; omega
  have hFb : 0 ≤ F ∧ F < 65536 := by have := Hbd.out; omega
  rw [eN] at H4
  rw [eF] at H6
  rw [eN, eF]
  obtain ⟨hN0, hN1⟩ := hNb
  have hwN : wrap64 N = N := IntWalk.wrap64_in _ (by omega)
  clear eN eF
  by_cases h5 : N = (n : Int)
  case neg =>
    have He := Lib.hid (show errU src dst b = 5 by unfold errU; rw [if_neg (by have := Hlen.out; omega), if_neg (by have := Hlen.out; omega), if_pos (by rw [H4.out, Hlen.out]; exact h5)])
    have h5d : (N != (n : Int)) = true := by simpa using h5
    clear h5 hFb
    go_wp2_with fail
    refine (fail_any B g 5 _ _ _ (by decide) Hr.out).mono ?_
    rintro e w2 ⟨rfl, hg2, hb2⟩
    exact ⟨rfl, Hend.out 5 _ (by decide) He.out hg2 (Hb.out.trans hb2)⟩
  have h5d : (N != (n : Int)) = false := by simpa using h5
  have E5 := Lib.hid h5
  clear h5
  go_wp2_with fail
  have HbD := Lib.hid Hb.out.drew
  have HrD := Lib.hid (Hr.out.below (Below.drew (Below.refl _ _)))
  refine wp_region_held_drew (S := fun w' => w'.cell? ⟨p1, 0, none⟩ = some (.int .u32 src) ∧ w'.cell? ⟨p2, 0, none⟩ = some (.int .u32 dst) ∧ w'.cell? ⟨p3, 0, none⟩ = some (.slice A n c)) (by kernel_rfl) (HpA.out _ HbD.out) (fun hHeld => ?_)
  obtain ⟨wd, ewd⟩ : ∃ wd, w1.drew = wd := ⟨_, rfl⟩
  rw [ewd] at HbD HrD hHeld ⊢
  clear ewd Hb Hr hc3
  have HsumL := Lib.hid (show (sumL ([pseudoL src dst 17 N, b] : List (List Int)).flatten == 65535) = (sumL (pseudoL src dst 17 b.length ++ b) == 65535) by rw [Hlen.out, E5.out]; simp)
  obtain ⟨y, ey⟩ : ∃ y, sumL (pseudoL src dst 17 b.length ++ b) = y := ⟨_, rfl⟩
  rw [ey] at HsumL
  have Ey := Lib.hid ey
  clear ey
  have Hfin : Hid (∀ (w2 : World), Rdr w2 B g l (0 + 2 + 2 + 2 + 2) → But (fun k => k = g) w w2 → errU src dst b = 0 → ∀ (e : Ending) (w3 : World), BytesIs B g (n - 8) l [] (0 + 2 + 2 + 2 + 2 + (n - 8 : Nat)) w2 e w3 → ∃ A8 c8, e = .returned (.slice A8 (n - 8) c8) ∧ w3.heap[q]? = some (.cells zeroU 31 (0, 0)) ∧
      ∀ w4, w4 = ((w3.setCell ⟨q, 0, none⟩ (.int .u16 (b0 * 256 + b1))).setCell ⟨q, 1, none⟩ (.int .u16 (b2 * 256 + b3))).setCell ⟨q, 2, none⟩ (.slice A8 (n - 8) c8) → Did (fun k => k = q) g (DgR q src dst b w) w (.returned (.tuple #[])) w4) := by
    refine Lib.hid (fun w2 hr2 hb2 hx e w3 ⟨A8, c8, he, k8, m8, ho8, hr8, hb8⟩ => ⟨A8, c8, he, (hb2.trans hb8).blk Hq.out (by omega), ?_⟩)
    rintro w4 rfl
    have hqb := (hb2.trans hb8).blk Hq.out (by omega)
    have hb9 := set3_but w3 q (.int .u16 (b0 * 256 + b1)) (.int .u16 (b2 * 256 + b3)) (.slice A8 (n - 8) c8)
    have hs9 := set3_blk hqb (.int .u16 (b0 * 256 + b1)) (.int .u16 (b2 * 256 + b3)) (.slice A8 (n - 8) c8)
    have hr9 := hr8.but hb9 (fun k e => by rw [e]; omega)
    obtain ⟨A7, n7, c7, _, _, _, _, _, hg7, _⟩ := hr9
    refine ⟨0, A7, n7, c7, _, .inl ⟨rfl, rfl⟩, hg7, ((hb2.trans hb8).mono (fun _ _ h => .inr h)).trans (hb9.mono (fun _ _ h => .inl h)), hx.symm, .inr ⟨rfl, A8, c8, ?_, ?_⟩⟩
    · rw [Hof.out, Hlen.out]
      exact hs9
    · rw [Hlen.out, Heb.out]
      exact (ho8.mono hb2.size).but hb9 (fun k hk e => by omega)
  by_cases h0 : F = 0
  · subst h0
    have Herr := Lib.hid (show errU src dst b = 0 by unfold errU; rw [if_neg (by have := Hlen.out; omega), if_neg (by have := Hlen.out; omega), if_neg (by rw [H4.out, Hlen.out, E5.out]; simp), if_neg (by rw [H6.out]; simp)])
    refine tk 0 ?_ rfl ?_ ?_
    rotate_left
    · intro w' hSw; (go_simp <;> (with_reducible rfl))
    try simp only [Act.put, putL]
    refine tk 1 ?_ rfl ?_ ?_
    rotate_left
    · intro w' hSw; (go_simp <;> (with_reducible rfl))
    try simp only [Act.put, putL]
    refine tk 2 ?_ rfl ?_ ?_
    rotate_left
    · intro w' hSw; (go_simp <;> (with_reducible rfl))
    try simp only [Act.put, putL]
    refine tkN 3 rfl ?_
    try simp only [Act.put, putL]
    refine tkN 4 rfl ?_
    try simp only [Act.put, putL]
    refine tkN 5 rfl ?_
    try simp only [Act.put, putL]
    refine tkN 6 rfl ?_
    try simp only [Act.put, putL]
    refine tkN 7 rfl ?_
    try simp only [Act.put, putL]
    refine tkN 8 rfl ?_
    try simp only [Act.put, putL]
    refine tkN 9 rfl ?_
    try simp only [Act.put, putL]
    refine tkN 10 rfl ?_
    try simp only [Act.put, putL]
    refine tk 11 ?_ rfl ?_ ?_
    rotate_left
    · intro w' hSw; (go_simp <;> (with_reducible rfl))
    try simp only [Act.put, putL]
    refine wpAnyH_done (by kernel_rfl) ?_ _
    have Hr := HrD
    have Hb := HbD
    clear HbD HrD hHeld HsumL
    go_wp2_with fail
    refine (rest_is B g (n - 8) l _ _ Hll.out (by omega) Hr.out).mono ?_
    intro e w3 h3
    obtain ⟨A8, c8, rfl, hq3, hfin⟩ := Hfin.out _ Hr.out Hb.out Herr.out e w3 h3
    obtain ⟨q0, q1, q2⟩ := cells3 hq3
    have qf := blk_free hq3
    have HF := Lib.hid hfin
    clear h3 hq3 hfin
    go_wp2_with fail
    go_end0
    exact HF.out _ rfl
  · have h0d : (F != 0) = true := by simpa using h0
    have H0 := Lib.hid h0
    clear h0
    by_cases h7 : y = 65535
    · have h7b : (y == 65535) = true := by simpa using h7
      have Herr := Lib.hid (show errU src dst b = 0 by unfold errU; rw [if_neg (by have := Hlen.out; omega), if_neg (by have := Hlen.out; omega), if_neg (by rw [H4.out, Hlen.out, E5.out]; simp), if_neg (by rw [Ey.out]; simp [h7])])
      clear h7
      refine tk 0 ?_ rfl ?_ ?_
      rotate_left
      · intro w' hSw; (go_simp <;> (with_reducible rfl))
      try simp only [Act.put, putL]
      refine tk 1 ?_ rfl ?_ ?_
      rotate_left
      · intro w' hSw; (go_simp <;> (with_reducible rfl))
      try simp only [Act.put, putL]
      refine tk 2 ?_ rfl ?_ ?_
      rotate_left
      · intro w' hSw; (go_simp <;> (with_reducible rfl))
      try simp only [Act.put, putL]
      refine tk 3 ?_ rfl ?_ ?_
      rotate_left
      · intro w' hSw; (go_simp <;> (with_reducible rfl))
      try simp only [Act.put, putL]
      refine tk 4 ?_ rfl ?_ ?_
      rotate_left
      · intro w' hSw; (go_simp <;> (with_reducible rfl))
      try simp only [Act.put, putL]
      refine tk 5 ?_ rfl ?_ ?_
      rotate_left
      · intro w' hSw; (go_simp <;> (with_reducible rfl))
      try simp only [Act.put, putL]
      refine tk 7 ?_ rfl ?_ ?_
      rotate_left
      · intro w' hSw; (go_simp <;> (with_reducible rfl))
      try simp only [Act.put, putL]
      refine tkC 6 rfl (fun K hK => ?_)
      go_simp
      (go_at_call 104; refine (pseudo_any src dst 17 N _ (by omega)).mono ?_; rintro e w6 ⟨A6, c6, rfl, k6, m6, ho6, hb6⟩; have Hb6 := Lib.hid hb6; have Hr6 := Lib.hid (ho6.rd (pseudo_byte _ _ _ _ (by omega))); have Hc6 := Lib.hid (And.intro k6 m6); clear ho6 hb6 k6 m6)
      refine hK.out _ _ ?_ (fun hHeld => ?_)
      · exact HpA.out _ (HbD.out.trans (But.of Hb6.out))
      clear hK K
      try simp only [Act.put, putL]
      refine tkC 8 rfl (fun K hK => ?_)
      go_simp
      skip
      refine hK.out _ _ ?_ (fun hHeld => ?_)
      · exact HpA.out _ (HbD.out.trans (But.of (below_trans Hb6.out ((Below.refl _ _).alloc (Nat.le_refl _) _))))
      clear hK K
      try simp only [Act.put, putL]
      refine tkC 9 rfl (fun K hK => ?_)
      go_simp
      (go_at_call 12; refine (right_told _ 2 2 [pseudoL src dst 17 N, b] _ (y == 65535) (by omega) (RdL.twoW w6 _ A6 A 12 c6 n c _ _ Hc6.out hc Hr6.out (HA.out.but (HbD.out.trans (But.of Hb6.out)) (fun x o e _ => by have := hAB x o e; omega))) HsumL.out).mono ?_; rintro e w7 ⟨rfl, hb7⟩; have Hb7 := Lib.hid (below_trans Hb6.out (on_alloc hb7)); clear hb7)
      refine hK.out _ _ ?_ (fun hHeld => ?_)
      · exact HpA.out _ (HbD.out.trans (But.of Hb7.out))
      clear hK K
      try simp only [Act.put, putL]
      refine tk 10 ?_ rfl ?_ ?_
      rotate_left
      · intro w' hSw; (go_simp <;> (with_reducible rfl))
      try simp only [Act.put, putL]
      refine tk 11 ?_ rfl ?_ ?_
      rotate_left
      · intro w' hSw; (go_simp <;> (with_reducible rfl))
      try simp only [Act.put, putL]
      refine wpAnyH_done (by kernel_rfl) ?_ _
      have Hr := Lib.hid (HrD.out.below Hb7.out)
      have Hb := Lib.hid (HbD.out.trans (But.of Hb7.out))
      clear Hb6 Hr6 Hc6 Hb7 HbD HrD hHeld HsumL
      go_wp2_with fail
      refine (rest_is B g (n - 8) l _ _ Hll.out (by omega) Hr.out).mono ?_
      intro e w3 h3
      obtain ⟨A8, c8, rfl, hq3, hfin⟩ := Hfin.out _ Hr.out Hb.out Herr.out e w3 h3
      obtain ⟨q0, q1, q2⟩ := cells3 hq3
      have qf := blk_free hq3
      have HF := Lib.hid hfin
      clear h3 hq3 hfin
      go_wp2_with fail
      go_end0
      exact HF.out _ rfl
    · have h7b : (y == 65535) = false := by simpa using h7
      have He := Lib.hid (show errU src dst b = 20 by unfold errU; rw [if_neg (by have := Hlen.out; omega), if_neg (by have := Hlen.out; omega), if_neg (by rw [H4.out, Hlen.out, E5.out]; simp), if_pos ⟨by rw [H6.out]; exact H0.out, by rw [Ey.out]; exact h7⟩])
      clear h7
      refine tk 0 ?_ rfl ?_ ?_
      rotate_left
      · intro w' hSw; (go_simp <;> (with_reducible rfl))
      try simp only [Act.put, putL]
      refine tk 1 ?_ rfl ?_ ?_
      rotate_left
      · intro w' hSw; (go_simp <;> (with_reducible rfl))
      try simp only [Act.put, putL]
      refine tk 2 ?_ rfl ?_ ?_
      rotate_left
      · intro w' hSw; (go_simp <;> (with_reducible rfl))
      try simp only [Act.put, putL]
      refine tk 3 ?_ rfl ?_ ?_
      rotate_left
      · intro w' hSw; (go_simp <;> (with_reducible rfl))
      try simp only [Act.put, putL]
      refine tk 4 ?_ rfl ?_ ?_
      rotate_left
      · intro w' hSw; (go_simp <;> (with_reducible rfl))
      try simp only [Act.put, putL]
      refine tk 5 ?_ rfl ?_ ?_
      rotate_left
      · intro w' hSw; (go_simp <;> (with_reducible rfl))
      try simp only [Act.put, putL]
      refine tk 7 ?_ rfl ?_ ?_
      rotate_left
      · intro w' hSw; (go_simp <;> (with_reducible rfl))
      try simp only [Act.put, putL]
      refine tkC 6 rfl (fun K hK => ?_)
      go_simp
      (go_at_call 104; refine (pseudo_any src dst 17 N _ (by omega)).mono ?_; rintro e w6 ⟨A6, c6, rfl, k6, m6, ho6, hb6⟩; have Hb6 := Lib.hid hb6; have Hr6 := Lib.hid (ho6.rd (pseudo_byte _ _ _ _ (by omega))); have Hc6 := Lib.hid (And.intro k6 m6); clear ho6 hb6 k6 m6)
      refine hK.out _ _ ?_ (fun hHeld => ?_)
      · exact HpA.out _ (HbD.out.trans (But.of Hb6.out))
      clear hK K
      try simp only [Act.put, putL]
      refine tkC 8 rfl (fun K hK => ?_)
      go_simp
      skip
      refine hK.out _ _ ?_ (fun hHeld => ?_)
      · exact HpA.out _ (HbD.out.trans (But.of (below_trans Hb6.out ((Below.refl _ _).alloc (Nat.le_refl _) _))))
      clear hK K
      try simp only [Act.put, putL]
      refine tkC 9 rfl (fun K hK => ?_)
      go_simp
      (go_at_call 12; refine (right_told _ 2 2 [pseudoL src dst 17 N, b] _ (y == 65535) (by omega) (RdL.twoW w6 _ A6 A 12 c6 n c _ _ Hc6.out hc Hr6.out (HA.out.but (HbD.out.trans (But.of Hb6.out)) (fun x o e _ => by have := hAB x o e; omega))) HsumL.out).mono ?_; rintro e w7 ⟨rfl, hb7⟩; have Hb7 := Lib.hid (below_trans Hb6.out (on_alloc hb7)); clear hb7)
      refine hK.out _ _ ?_ (fun hHeld => ?_)
      · exact HpA.out _ (HbD.out.trans (But.of Hb7.out))
      clear hK K
      try simp only [Act.put, putL]
      refine tk 10 ?_ rfl ?_ ?_
      rotate_left
      · intro w' hSw; (go_simp <;> (with_reducible rfl))
      try simp only [Act.put, putL]
      refine tk 11 ?_ rfl ?_ ?_
      rotate_left
      · intro w' hSw; (go_simp <;> (with_reducible rfl))
      try simp only [Act.put, putL]
      refine wpAnyH_done (by kernel_rfl) ?_ _
      have Hr := Lib.hid (HrD.out.below Hb7.out)
      have Hb := Lib.hid (HbD.out.trans (But.of Hb7.out))
      clear Hb6 Hr6 Hc6 Hb7 HbD HrD hHeld HsumL
      go_wp2_with fail
      refine (fail_any B g 20 _ _ _ (by decide) Hr.out).mono ?_
      rintro e w2 ⟨rfl, hg2, hb2⟩
      exact ⟨rfl, Hend.out 20 _ (by decide) He.out hg2 (Hb.out.trans hb2)⟩
theorem uparse1_any (B g p1 p2 p3 q n c : Nat) (src dst : Int) (A : Option Addr) (w : World) (hB : p1 < B ∧ p2 < B ∧ p3 < B ∧ q < B ∧ p1 ≠ q ∧ p2 ≠ q ∧ p3 ≠ q) (hl : n ≤ 1480) (b : List Int) (hc : n ≤ c ∧ c ≤ maxLen) (hAB : 0 < n → ∀ x o, A = some ⟨x, o, none⟩ → x < B) (hA : Rd w A n b)
    (hp1 : Box w p1 23 (.int .u32 src)) (hp2 : Box w p2 23 (.int .u32 dst)) (hp3 : Box w p3 24 (.slice A n c)) (hq : w.heap[q]? = some (.cells zeroU 31 (0, 0))) (h : Rdr w B g b 0) :
    Calls Tryz.prog 112 #[.pointer (some ⟨g, 0, none⟩), .pointer (some ⟨p3, 0, none⟩), .pointer (some ⟨p1, 0, none⟩), .pointer (some ⟨p2, 0, none⟩), .pointer (some ⟨q, 0, none⟩)] w
      (Did (fun k => k = q) g (DgR q src dst b w) w) := by
  have hlen := hA.len
  by_cases h2 : n < 8
  · exact uparse1_short B g p1 p2 p3 q n src dst b w hB.2.2.2.1 h2 hlen hq h
  · obtain ⟨b0, b1, b2, b3, b4, b5, b6, b7, l, eb⟩ := eight b (by omega)
    exact uparse1_ok B g p1 p2 p3 q n c src dst A b0 b1 b2 b3 b4 b5 b6 b7 l w hB hl b eb hlen hc (hAB (by omega)) hA hp1 hp2 hp3 hq h
end Go.Proofs.YtoegfgbalcholaaGreat

/-
  Plain mathematics of a datagram's bytes: they are read again, whichever way the addresses stand; with another sum they are refused. No function of the program.
-/
namespace Go.Proofs.YtoegfgbalcholaaGreat
set_option maxRecDepth 10000
open Go.RowKit

theorem ws_pseudoU (s d p n : Int) (hs : 0 ≤ s ∧ s < 4294967296) (hd : 0 ≤ d ∧ d < 4294967296) (hn : 0 ≤ n ∧ n < 65536) : ws false (pseudoL s d p n) = s / 65536 + s % 65536 + (d / 65536 + d % 65536) + p + n := by
  simp [pseudoL, ws]; omega
theorem pseudo_even (a b c d : Int) : (pseudoL a b c d).length % 2 = 0 := by simp [pseudoL]
theorem ws_be16 (x : Int) : ws false (be16 x) = x := by simp [be16, ws]; omega
/-- What is summed beside the pseudo header and the field. -/
def restU (s : Dg) : Int := ws false (hdU s) + ws false s.d
theorem restU_nn {s : Dg} (h : DgNum s) (hl : s.d.length ≤ 1472) (hd : ∀ x ∈ s.d, 0 ≤ x ∧ x < 256) : 0 ≤ restU s := by
  have h1 := ws_nn (hdU s) (hdU_bytes h hl) false
  have h2 := ws_nn s.d hd false
  unfold restU; omega
theorem ws_dgB (src dst : Int) (s : Dg) : ws false (dgB src dst s) = restU s + fieldU src dst s := by
  unfold dgB restU
  rw [ws_even _ _ (by rw [hdU_len]), ws_even _ _ (by simp [be16]), ws_be16]; omega
theorem fold_right (N : Int) : fold16 N = 65535 ↔ 0 < N ∧ N % 65535 = 0 := by
  unfold fold16; split <;> omega
theorem fieldU_mod (src dst : Int) (s : Dg) (hs : 0 ≤ src ∧ src < 4294967296) (hd : 0 ≤ dst ∧ dst < 4294967296) (hl : s.d.length ≤ 1472) (hr : 0 ≤ restU s) :
    (src / 65536 + src % 65536 + (dst / 65536 + dst % 65536) + 17 + (8 + (s.d.length : Int)) + restU s + fieldU src dst s) % 65535 = 0 := by
  unfold fieldU fldU sumL
  rw [ws_even _ _ (pseudo_even _ _ _ _), ws_even _ _ (by rw [hdU_len]), ws_pseudoU _ _ _ _ hs hd (by omega)]
  unfold restU at hr ⊢
  obtain ⟨R, hR⟩ : ∃ R, ws false (hdU s) + ws false s.d = R := ⟨_, rfl⟩
  rw [hR] at hr ⊢
  obtain ⟨T, hT⟩ : ∃ T, src / 65536 + src % 65536 + (dst / 65536 + dst % 65536) + 17 + (8 + (s.d.length : Int)) + R = T := ⟨_, rfl⟩
  rw [hT]
  have hp : 0 < T := by omega
  unfold fold16
  rw [if_neg (show ¬ T ≤ 0 by omega)]
  split <;> omega

theorem dgB_list (src dst : Int) (s : Dg) : dgB src dst s = s.sp / 256 :: s.sp % 256 :: s.dp / 256 :: s.dp % 256 :: (8 + (s.d.length : Int)) / 256 :: (8 + (s.d.length : Int)) % 256 :: fieldU src dst s / 256 :: fieldU src dst s % 256 :: s.d := by
  simp [dgB, hdU, be16]
theorem dgOf_dgB (src dst : Int) (s : Dg) : dgOf (dgB src dst s) = s := by
  rw [dgB_list]
  obtain ⟨sp, dp, d⟩ := s
  simp only [dgOf, n16, List.getD_cons_zero, List.getD_cons_succ, List.drop_succ_cons, List.drop_zero, Dg.mk.injEq]
  simp
  omega
theorem n16_len (src dst : Int) (s : Dg) : n16 (dgB src dst s) 4 = 8 + (s.d.length : Int) := by
  rw [dgB_list]
  simp only [n16, List.getD_cons_zero, List.getD_cons_succ]
  omega
theorem n16_field (src dst : Int) (s : Dg) : n16 (dgB src dst s) 6 = fieldU src dst s := by
  rw [dgB_list]
  simp only [n16, List.getD_cons_zero, List.getD_cons_succ]
  omega
/-- Parse between any addresses of what Put told between src and dst. -/
theorem err_dgB (src dst src' dst' : Int) (s : Dg) (hs : 0 ≤ src ∧ src < 4294967296) (hd : 0 ≤ dst ∧ dst < 4294967296) (hs' : 0 ≤ src' ∧ src' < 4294967296) (hd' : 0 ≤ dst' ∧ dst' < 4294967296) (hl : s.d.length ≤ 1472) (hr : 0 ≤ restU s) :
    errU src' dst' (dgB src dst s) = if (src / 65536 + src % 65536 + (dst / 65536 + dst % 65536) - (src' / 65536 + src' % 65536 + (dst' / 65536 + dst' % 65536))) % 65535 = 0 then 0 else 20 := by
  have hm := fieldU_mod src dst s hs hd hl hr
  have hb : 0 < fieldU src dst s ∧ fieldU src dst s < 65536 := fldU_bd _
  have hlen := dgB_len src dst s
  unfold errU
  rw [if_neg (by omega), if_neg (by omega), if_neg (by rw [n16_len]; omega), n16_field]
  unfold sumL
  rw [ws_even _ _ (pseudo_even _ _ _ _), ws_pseudoU _ _ _ _ hs' hd' (by omega), ws_dgB, hlen]
  by_cases h : (src / 65536 + src % 65536 + (dst / 65536 + dst % 65536) - (src' / 65536 + src' % 65536 + (dst' / 65536 + dst' % 65536))) % 65535 = 0
  · rw [if_pos h, if_neg (fun hh => hh.2 ((fold_right _).2 (by omega)))]
  · rw [if_neg h, if_pos ⟨by omega, fun hh => by have := (fold_right _).1 hh; omega⟩]
end Go.Proofs.YtoegfgbalcholaaGreat
