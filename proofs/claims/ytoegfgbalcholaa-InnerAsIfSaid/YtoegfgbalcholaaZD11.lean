/-
  Texts laid together: Udp, UdpPut, UdpRead, UdpPlain.
-/
import Derived.Test.YtoegfgbalcholaaZD10
import Derived.Test.YtoegfgbalcholaaZD04
import Derived.Test.YtoegfgbalcholaaZD06
import Derived.Deep.RegionHeld3
import Derived.Test.YtoegfgbalcholaaZD01
import Derived.Deep.CutRange

/-
  Package udp: what a datagram's bytes are; the contracts of word, fieldOf, and of the closure within Put.
-/
namespace Go.Proofs.Ytoegfgbalcholaa
set_option maxRecDepth 10000
open Go.RowKit

/-- The field of bytes: never 0000. -/
def fldU (l : List Int) : Int := if 65535 - sumL l = 0 then 65535 else 65535 - sumL l
def hdU (s : Dg) : List Int := be16 s.sp ++ be16 s.dp ++ be16 (8 + (s.d.length : Int))
def fieldU (src dst : Int) (s : Dg) : Int := fldU (pseudoL src dst 17 (8 + (s.d.length : Int)) ++ (hdU s ++ s.d))
/-- A datagram's bytes. -/
def dgB (src dst : Int) (s : Dg) : List Int := hdU s ++ (be16 (fieldU src dst s) ++ s.d)
theorem fldU_bd (l : List Int) : 0 < fldU l ∧ fldU l < 65536 := by
  have := sumL_bd l
  unfold fldU
  split <;> omega
theorem hdU_len (s : Dg) : (hdU s).length = 6 := by simp [hdU, be16]
theorem dgB_len (src dst : Int) (s : Dg) : (dgB src dst s).length = 8 + s.d.length := by simp [dgB, hdU, be16]; omega
theorem be16_bytes {x : Int} (h : 0 ≤ x ∧ x < 65536) : ∀ y ∈ be16 x, 0 ≤ y ∧ y < 256 := by intro y hy; simp [be16] at hy; omega
theorem hdU_bytes {s : Dg} (h : DgNum s) (hl : s.d.length ≤ 1472) : ∀ x ∈ hdU s, 0 ≤ x ∧ x < 256 := by
  obtain ⟨h1, h2⟩ := h
  intro x hx
  simp [hdU, be16] at hx
  omega
theorem dgB_bytes {s : Dg} (src dst : Int) (h : DgNum s) (hl : s.d.length ≤ 1472) (hd : ∀ x ∈ s.d, 0 ≤ x ∧ x < 256) : ∀ x ∈ dgB src dst s, 0 ≤ x ∧ x < 256 := by
  intro x hx
  rcases List.mem_append.1 hx with h1 | h1
  · exact hdU_bytes h hl x h1
  · rcases List.mem_append.1 h1 with h2 | h2
    · have : 0 < fieldU src dst s ∧ fieldU src dst s < 65536 := fldU_bd _
      exact be16_bytes (by omega) x h2
    · exact hd x h2

theorem word_row (x : Int) (w : World) (hx : 0 ≤ x ∧ x < 65536) :
    Calls Try.prog 41 #[.int .u16 x] w (RowIs 2 (be16 x) w) := by
  have Hu := Lib.hid (u16_lays none 0 0 [] x w hx (by simp [maxLen]) (by omega) (Rd.nil _ _))
  go_enter Try.func41, Try.ntmps41
  go_wp2_with fail
  refine Hu.out.mono ?_
  rintro e w1 ⟨A1, c1, rfl, h1, h2, hown, hb1⟩
  have Ho := Lib.hid hown
  have Hb := Lib.hid hb1
  clear hown hb1
  go_wp2_with fail
  go_ret
  exact ⟨A1, c1, rfl, h1, h2, Ho.out, Hb.out⟩

theorem fieldof_any (A : Option Addr) (n c : Nat) (ls : List (List Int)) (w : World) (x : Int) (hn : n ≤ 1000) (h : RdL w A n ls) (hx : fldU ls.flatten = x) :
    Calls Try.prog 42 #[.slice A n c] w (SumIs x w) := by
  have Hf := Lib.hid (field_any A n c ls w (by omega) h)
  unfold fldU at hx
  obtain ⟨y, ey⟩ : ∃ y, 65535 - sumL ls.flatten = y := ⟨_, rfl⟩
  rw [ey] at Hf hx
  clear h ey
  by_cases hy : y = 0
  · subst hy
    rw [if_pos rfl] at hx
    subst hx
    go_enter Try.func42, Try.ntmps42
    go_wp2_with fail
    refine Hf.out.mono ?_
    rintro e w1 ⟨rfl, hb1⟩
    have Hb := Lib.hid hb1
    clear hb1
    go_wp2_with fail
    go_ret
    exact ⟨rfl, Hb.out⟩
  · rw [if_neg hy] at hx
    subst hx
    have hy2 : (y == 0) = false := by simpa using hy
    have hy3 : (y != 0) = true := by simpa using hy
    clear hy
    go_enter Try.func42, Try.ntmps42
    go_wp2_with fail
    refine Hf.out.mono ?_
    rintro e w1 ⟨rfl, hb1⟩
    have Hb := Lib.hid hb1
    clear hb1
    go_wp2_with fail
    go_ret
    exact ⟨rfl, Hb.out⟩

/-- A row grows in a box of the caller's own: nothing else that was there turns but the row. -/
def LaidU (p B : Nat) (A1 : Option Addr) (m : Nat) (l : List Int) (w : World) (e : Ending) (w' : World) : Prop :=
  e = .returned (.tuple #[]) ∧ (∃ A2 c2, Box w' p 22 (.slice A2 m c2) ∧ OwnB w' B A2 m c2 l) ∧ But (fun k => k = p ∨ A1 = some ⟨k, 0, none⟩) w w'

theorem own_block {w : World} {B : Nat} {A : Option Addr} {n c : Nat} {l : List Int} (h : OwnB w B A n c l) (g : Nat) : (Value.slice A n c).ownBlock = some g → A = some ⟨g, 0, none⟩ ∧ g < w.heap.size := by
  intro e
  rcases h.2 with ⟨e1, _⟩ | ⟨g', cap, cur, e1, hBg, hg, _⟩
  · injection e1 with e1 _ _
    subst e1
    simp [Value.ownBlock] at e
  · injection e1 with e1 _ _
    subst e1
    simp [Value.ownBlock] at e
    subst e
    exact ⟨rfl, lt_of_block hg⟩
theorem own_block2 {w : World} {B : Nat} {A : Option Addr} {n c : Nat} {l : List Int} (h : OwnB w B A n c l) (g : Nat) (e : A = some ⟨g, 0, none⟩) : (Value.slice A n c).ownBlock = some g := by
  subst e
  simp [Value.ownBlock]

theorem ulay_any (B p : Nat) (A : Option Addr) (n c : Nat) (ls : List (List Int)) (A1 : Option Addr) (n1 c1 : Nat) (l : List Int) (T : Nat) (w : World) (hn : n ≤ 1000) (hp : p < B) (hB : B ≤ w.heap.size)
    (hbox : Box w p 22 (.slice A1 n1 c1)) (hown : OwnB w B A1 n1 c1 l) (h : ∀ w', But (fun k => k = p ∨ A1 = some ⟨k, 0, none⟩) w w' → RdL w' A n ls) (hT : ls.flatten.length = T) (hm : n1 + T ≤ 100000) :
    Calls Try.prog 40 #[.slice A n c, .pointer (some ⟨p, 0, none⟩)] w (LaidU p B A1 (n1 + T) (l ++ ls.flatten) w) := by
  have Hlen := Lib.hid (h w (But.refl _ _)).len
  have HT := Lib.hid hT
  have Hh := Lib.hid h
  have Hown := Lib.hid hown
  have Hbox := Lib.hid hbox
  clear h hT hown hbox
  go_enter Try.func40, Try.ntmps40
  go_wp2_with fail
  go_loopg [7] n (fun gk i wr => ∃ (j m : Nat) (A2 : Option Addr) (c2 : Nat), Hid (gk + j = n) ∧ j ≤ n ∧ i = .int .i64 (j : Int) ∧ m ≤ 100000 ∧ Hid (Box wr p 22 (.slice A2 m c2)) ∧ Hid (OwnB wr B A2 m c2 (l ++ (ls.take j).flatten)) ∧ Hid (But (fun k => k = p ∨ A1 = some ⟨k, 0, none⟩) w wr) ∧ Hid (∀ g, A2 = some ⟨g, 0, none⟩ → g < w.heap.size → A1 = some ⟨g, 0, none⟩))
  case atStart => exact ⟨0, n1, A1, c1, rfl, Nat.zero_le _, rfl, by omega, Hbox, by simpa using Hown, Lib.hid (But.refl _ _), Lib.hid (fun _ e _ => e)⟩
  case round =>
    obtain ⟨j, m, A2, c2, hgk, hj, rfl, hmj, hbx, hown, hb, hA⟩ := hrel
    by_cases hlt : j < n
    · have hf := flat_take ls j (by rw [Hlen.out]; exact hlt)
      obtain ⟨q, Ai, ci, hrunq, hqb, hcq, hci, hcm, hri⟩ := (Hh.out wr hb.out).index (c := c) hlt
      have hsum : m + (ls.getD j []).length ≤ 100000 := by
        have h1 := hown.out.len
        have h3 := flat_len_le ls (j + 1)
        rw [List.length_append] at h1
        rw [hf, List.length_append] at h3
        have := HT.out
        have := Hown.out.len
        omega
      have Hf := Lib.hid (show (l ++ (ls.take j).flatten) ++ ls.getD j [] = l ++ (ls.take (j + 1)).flatten by rw [hf, List.append_assoc])
      have hpc := hbx.out.cell
      have Hbs := Lib.hid (show B ≤ wr.heap.size from Nat.le_trans hB hb.out.size)
      obtain ⟨k, ek⟩ : ∃ k, (ls.getD j []).length = k := ⟨_, rfl⟩
      rw [ek] at hcq hsum hri hci
      have Hri := Lib.hid hri
      clear hri hci hf ek
      go_wp2_with (refine wpList_app rfl (.tmp 11) (.tmp 12) rfl B A2 Ai m c2 k ci _ _ rfl rfl hown.out Hri.out (by omega) Hbs.out ?_; intro A3 c3 w3 hown3 hg3 hb3 hat3; have hbx3 := hbx.out.below hb3 hp; have hf3 := hbx3.free; have hc3 := hbx3.cell)
      rw [Hf.out] at hown3
      have hB3 : But (fun k => k = p ∨ A1 = some ⟨k, 0, none⟩) w w3 := by
        refine ⟨hg3.os.trans hb.out.os, hg3.tape.trans hb.out.tape, hg3.output.trans hb.out.output, Nat.le_trans hb.out.size hg3.size, fun k hk hS => ?_⟩
        rw [hg3.block k (Nat.lt_of_lt_of_le hk hb.out.size) (fun e => hS (.inr (hA.out k (own_block hown.out k e.symm).1 hk)))]
        exact hb.out.block k hk hS
      have hA3 : ∀ g, A3 = some ⟨g, 0, none⟩ → g < w.heap.size → A1 = some ⟨g, 0, none⟩ := by
        intro g e hg
        have e2 := own_block2 hown3 g e
        rcases hat3 with h1 | h1
        · rw [h1] at e2
          exact hA.out g (own_block hown.out g e2).1 hg
        · rw [h1] at e2
          injection e2 with e2
          have := hb.out.size
          omega
      have Hbx4 := Lib.hid (hbx3.set_ (.slice A3 (m + k) c3))
      have Hown4 := Lib.hid (hown3.but ((But.refl (fun k => k = p) w3).setCell (p := ⟨p, 0, none⟩) rfl (.slice A3 (m + k) c3)) (fun k hk e => by omega))
      have Hb4 := Lib.hid (hB3.setCell (p := ⟨p, 0, none⟩) (.inl rfl) (.slice A3 (m + k) c3))
      have HA3 := Lib.hid hA3
      clear hown3 hg3 hb3 hat3 hbx3 hB3 hA3 hf3 hc3
      go_roundg (gk - 1)
      case measure => have := hgk.out; omega
      case rel => exact ⟨j + 1, m + k, A3, c3, by have := hgk.out; show gk - 1 + (j + 1) = _; omega, by omega, by go_num, hsum, Hbx4, Hown4, Hb4, HA3⟩
    · obtain rfl : j = n := by omega
      have ho := hown.out
      rw [List.take_of_length_le (by rw [Hlen.out]; exact Nat.le_refl _)] at ho
      have hmT : m = n1 + T := by
        have h1 := ho.len
        rw [List.length_append] at h1
        have := HT.out
        have := Hown.out.len
        omega
      subst hmT
      have Ho := Lib.hid ho
      clear ho
      go_wp2_with fail
      go_end0
      exact ⟨rfl, ⟨A2, c2, hbx.out, Ho.out⟩, hb.out⟩
end Go.Proofs.Ytoegfgbalcholaa

/-
  The contract of package udp's Put.
-/
namespace Go.Proofs.Ytoegfgbalcholaa
set_option maxRecDepth 10000
open Go.RowKit

/-- A row of slices that the walk has just laid, in a world in which nothing but S has turned since. -/
theorem RdL.rowBut {S : Nat → Prop} (w w' : World) (g : Nat) (hg : w.heap.size = g) (t : TypeId) (vs : List Value) (ls : List (List Int)) (n : Nat) (hn : ls.length = n) (hb : But S (w.alloc (.cells vs.toArray t)) w') (hS : ¬ S g)
    (h : ∀ i, i < n → ∃ Ai ci, vs[i]? = some (.slice Ai (ls.getD i []).length ci) ∧ (ls.getD i []).length ≤ ci ∧ ci ≤ maxLen ∧ Rd w Ai (ls.getD i []).length (ls.getD i []) ∧ ∀ k o, Ai = some ⟨k, o, none⟩ → 0 < (ls.getD i []).length → ¬ S k) :
    RdL w' (some ⟨g, 0, none⟩) n ls := by
  subst hg; subst hn
  refine ⟨rfl, fun _ => ⟨w.heap.size, 0, rfl, hb.lt (by simp), fun i hi => ?_⟩⟩
  obtain ⟨Ai, ci, h1, h2, h3, h4, h5⟩ := h i hi
  refine ⟨Ai, ci, ?_, h2, h3, (h4.below ((Below.refl _ _).alloc (Nat.le_refl _) _)).but hb h5⟩
  rw [hb.cell (p := ⟨w.heap.size, 0 + i, none⟩) (by simp) hS, World.cell?_alloc_mark]
  simpa using h1
theorem RdL.threeBut {S : Nat → Prop} (w w' : World) (g : Nat) (hg : w.heap.size = g) (t : TypeId) (A B C : Option Addr) (n c n1 c1 n2 c2 : Nat) (l l1 l2 : List Int) (hb : But S (w.alloc (.cells #[.slice A n c, .slice B n1 c1, .slice C n2 c2] t)) w') (hS : ¬ S g)
    (hc : n ≤ c ∧ c ≤ maxLen) (hc1 : n1 ≤ c1 ∧ c1 ≤ maxLen) (hc2 : n2 ≤ c2 ∧ c2 ≤ maxLen) (h : Rd w A n l) (h1 : Rd w B n1 l1) (h2 : Rd w C n2 l2) (s : ∀ k o, A = some ⟨k, o, none⟩ → ¬ S k) (s1 : ∀ k o, B = some ⟨k, o, none⟩ → ¬ S k) (s2 : ∀ k o, C = some ⟨k, o, none⟩ → ¬ S k) :
    RdL w' (some ⟨g, 0, none⟩) 3 [l, l1, l2] := by
  have := h.len; have := h1.len; have := h2.len
  subst n n1 n2
  refine RdL.rowBut w w' g hg t [.slice A l.length c, .slice B l1.length c1, .slice C l2.length c2] _ 3 rfl hb hS (fun i hi => ?_)
  match i, hi with
  | 0, _ => exact ⟨A, c, rfl, hc.1, hc.2, h, fun k o e _ => s k o e⟩
  | 1, _ => exact ⟨B, c1, rfl, hc1.1, hc1.2, h1, fun k o e _ => s1 k o e⟩
  | 2, _ => exact ⟨C, c2, rfl, hc2.1, hc2.2, h2, fun k o e _ => s2 k o e⟩
theorem RdL.twoBut {S : Nat → Prop} (w w' : World) (g : Nat) (hg : w.heap.size = g) (t : TypeId) (A B : Option Addr) (n c n1 c1 : Nat) (l l1 : List Int) (hb : But S (w.alloc (.cells #[.slice A n c, .slice B n1 c1] t)) w') (hS : ¬ S g)
    (hc : n ≤ c ∧ c ≤ maxLen) (hc1 : n1 ≤ c1 ∧ c1 ≤ maxLen) (h : Rd w A n l) (h1 : Rd w B n1 l1) (s : ∀ k o, A = some ⟨k, o, none⟩ → ¬ S k) (s1 : ∀ k o, B = some ⟨k, o, none⟩ → 0 < n1 → ¬ S k) :
    RdL w' (some ⟨g, 0, none⟩) 2 [l, l1] := by
  have := h.len; have := h1.len
  subst n n1
  refine RdL.rowBut w w' g hg t [.slice A l.length c, .slice B l1.length c1] _ 2 rfl hb hS (fun i hi => ?_)
  match i, hi with
  | 0, _ => exact ⟨A, c, rfl, hc.1, hc.2, h, fun k o e _ => s k o e⟩
  | 1, _ => exact ⟨B, c1, rfl, hc1.1, hc1.2, h1, fun k o e h0 => s1 k o e h0⟩
theorem RdL.threeU (w : World) (g : Nat) (hg : w.heap.size = g) (t : TypeId) (A B C : Option Addr) (n c n1 c1 n2 c2 : Nat) (l l1 l2 : List Int)
    (hc : n ≤ c ∧ c ≤ maxLen) (hc1 : n1 ≤ c1 ∧ c1 ≤ maxLen) (hc2 : n2 ≤ c2 ∧ c2 ≤ maxLen) (h : Rd w A n l) (h1 : Rd w B n1 l1) (h2 : Rd w C n2 l2) :
    RdL (w.alloc (.cells #[.slice A n c, .slice B n1 c1, .slice C n2 c2] t)) (some ⟨g, 0, none⟩) 3 [l, l1, l2] :=
  RdL.threeBut (S := fun _ => False) w _ g hg t A B C n c n1 c1 n2 c2 l l1 l2 (But.refl _ _) (fun h => h) hc hc1 hc2 h h1 h2 (fun _ _ _ h => h) (fun _ _ _ h => h) (fun _ _ _ h => h)

def UPutBad (w : World) (e : Ending) (w' : World) : Prop := e = .returned (.tuple #[.slice none 0 0, .int .i64 3]) ∧ Below w.heap.size w w'
def UPutOk (m : Nat) (l : List Int) (w : World) (e : Ending) (w' : World) : Prop :=
  ∃ A c, e = .returned (.tuple #[.slice A m c, .int .i64 0]) ∧ m ≤ c ∧ c ≤ maxLen ∧ OwnB w' w.heap.size A m c l ∧ Below w.heap.size w w'

theorem uput_bad (src dst sp dp : Int) (A : Option Addr) (n c : Nat) (w : World) (hn : 1472 < n) :
    Calls Try.prog 22 #[.int .u32 src, .int .u32 dst, .agg #[.int .u16 sp, .int .u16 dp, .slice A n c]] w (UPutBad w) := by
  have hni : (1472 : Int) < (n : Int) := by omega
  have Hb := Lib.hid ((Below.refl w.heap.size w).alloc (Nat.le_refl _) (.cells #[.int .u16 sp, .int .u16 dp, .slice A n c] 48))
  go_enter Try.func22, Try.ntmps22
  go_wp2_with fail
  go_ret2
  exact ⟨rfl, Hb.out⟩

theorem cells3 {w : World} {g : Nat} {u0 u1 u2 : Value} {t : TypeId} (h : w.heap[g]? = some (.cells #[u0, u1, u2] t (0, 0))) : w.cell? ⟨g, 0, none⟩ = some u0 ∧ w.cell? ⟨g, 1, none⟩ = some u1 ∧ w.cell? ⟨g, 2, none⟩ = some u2 := ⟨by rw [blk_cell h]; rfl, by rw [blk_cell h]; rfl, by rw [blk_cell h]; rfl⟩
theorem apt {A : Option Addr} {B m p : Nat} (h : ∃ g, A = some ⟨g, 0, none⟩ ∧ B ≤ g ∧ g < m) (hp : p < B) : ∀ k o, A = some ⟨k, o, none⟩ → ¬ (k = p ∨ none = some (⟨k, 0, none⟩ : Addr)) := by
  obtain ⟨g, rfl, h1, _⟩ := h
  intro k o e hh
  injection e with e
  injection e with e _
  rcases hh with hh | hh
  · omega
  · cases hh

theorem uput_ok (src dst : Int) (s : Dg) (A : Option Addr) (n c : Nat) (w : World) (hnum : DgNum s) (hc : n ≤ c ∧ c ≤ maxLen) (hr : Rd w A n s.d) (hn : n ≤ 1472) :
    Calls Try.prog 22 #[.int .u32 src, .int .u32 dst, .agg #[.int .u16 s.sp, .int .u16 s.dp, .slice A n c]] w (UPutOk (8 + n) (dgB src dst s) w) := by
  have hmf : ∀ (fn : Fn) (first cap : Array Value) (w : World), (Instr.makeFunc fn first cap).run Try.prog w = .ok (.func fn first cap) w := fun _ _ _ _ => rfl
  obtain ⟨sp, dp, d⟩ := s
  simp only at hr ⊢
  have hni : (n : Int) ≤ 1472 := by omega
  have hlen := hr.len
  obtain ⟨z, hz⟩ : ∃ z, w.heap.size = z := ⟨_, rfl⟩
  have hk := heap_alloc_new w (.cells #[.int .u16 sp, .int .u16 dp, .slice A n c] 48)
  have hx := Box.new (w.alloc (.cells #[.int .u16 sp, .int .u16 dp, .slice A n c] 48)) 22 (.slice none 0 0)
  have hb0 := ((Below.refl w.heap.size w).alloc (Nat.le_refl _) (.cells #[.int .u16 sp, .int .u16 dp, .slice A n c] 48)).alloc (by simp) (.cells #[.slice none 0 0] 22)
  have hk1 := (Below.heap_alloc _ (.cells #[.slice none 0 0] 22) _ (lt_of_block hk)).trans hk
  obtain ⟨w1, ew1⟩ : ∃ w1, ((w.alloc (.cells #[.int .u16 sp, .int .u16 dp, .slice A n c] 48)).alloc (.cells #[.slice none 0 0] 22)) = w1 := ⟨_, rfl⟩
  have hs1 : w1.heap.size = z + 2 := by rw [← ew1, ← hz]; simp
  have hx1 : Box w1 (z + 1) 22 (.slice none 0 0) := by rw [← ew1, ← hz]; simpa using hx
  rw [ew1] at hb0 hk1
  rw [hz] at hk1
  have Hk0 := Lib.hid hk1
  have Hx0 := Lib.hid hx1
  have Hb0 := Lib.hid hb0
  have Hd0 := Lib.hid (hr.below hb0)
  have Hdz := Lib.hid (show ∀ k o, A = some ⟨k, o, none⟩ → 0 < n → k < z from fun k o e h0 => by
    obtain ⟨b, o', e', hlt, _⟩ := hr.at_ h0
    rw [e] at e'; injection e' with e'; injection e' with e' _; omega)
  have Hc := Lib.hid hc
  have Hnum := Lib.hid hnum
  have Hlen := Lib.hid hlen
  have Hs1 := Lib.hid hs1
  have Hz := Lib.hid hz
  have hw16 : IntKind.u16.wrap (8 + (n : Int)) = 8 + (n : Int) := by simp [IntKind.wrap, IntKind.bits, IntKind.signed]; omega
  have Hlg := Lib.hid (show 0 ≤ 8 + (n : Int) ∧ 8 + (n : Int) < 65536 by omega)
  clear hk hx hb0 hk1 hx1 hr hc hnum hlen hs1
  go_enter Try.func22, Try.ntmps22
  obtain ⟨q0, q1, q2⟩ := cells3 Hk0.out
  go_wp2_with fail
  refine wp_region_held_drew (S := fun w' => w'.cell? ⟨z, 0, none⟩ = some (.int .u16 sp) ∧ w'.cell? ⟨z, 1, none⟩ = some (.int .u16 dp) ∧ w'.cell? ⟨z, 2, none⟩ = some (.slice A n c)) (by kernel_rfl) (cells3 Hk0.out) (fun hHeld => ?_)
  have hdr : Below w1.heap.size w1 w1.drew := Below.drew (Below.refl _ _)
  have Hk1 := Lib.hid (blk_on Hk0.out hdr)
  have Hx1 := Lib.hid (Hx0.out.below hdr (by have := Hs1.out; omega))
  have Hd1 := Lib.hid (Hd0.out.below hdr)
  have Hb1 := Lib.hid (below_trans Hb0.out hdr)
  have Hs1 := Lib.hid (show w1.drew.heap.size = z + 2 from Hs1.out)
  clear hdr q0 q1 q2
  obtain ⟨wd, ewd⟩ : ∃ wd, w1.drew = wd := ⟨_, rfl⟩
  rw [ewd] at Hk1 Hx1 Hd1 Hb1 Hs1 hHeld ⊢
  clear ewd
  refine tk 0 ?_ rfl ?_ ?_
  rotate_left
  · intro w' hSw; (go_simp <;> (with_reducible rfl))
  try simp only [Act.put, putL]
  refine tk 1 ?_ rfl ?_ ?_
  rotate_left
  · intro w' hSw; (go_simp <;> (with_reducible rfl))
  try simp only [Act.put, putL]
  refine tk 2 ?_ rfl ?_ ?_
  rotate_left
  · intro w' hSw; (go_simp <;> (with_reducible rfl))
  try simp only [Act.put, putL]
  refine tk 4 ?_ rfl ?_ ?_
  rotate_left
  · intro w' hSw; (go_simp <;> (with_reducible rfl))
  try simp only [Act.put, putL]
  refine tk 5 ?_ rfl ?_ ?_
  rotate_left
  · intro w' hSw; (go_simp <;> (with_reducible rfl))
  try simp only [Act.put, putL]
  refine tk 7 ?_ rfl ?_ ?_
  rotate_left
  · intro w' hSw; (go_simp <;> (with_reducible rfl))
  try simp only [Act.put, putL]
  refine tk 8 ?_ rfl ?_ ?_
  rotate_left
  · intro w' hSw; (go_simp <;> (with_reducible rfl))
  try simp only [Act.put, putL]
  refine tkC 3 rfl (fun K hK => ?_)
  go_simp
  (go_at_call 41; refine (word_row sp _ Hnum.out.sp).mono ?_; rintro e w2 ⟨A2, c2, rfl, k2, m2, ho2, hb2⟩; have Hr2 := Lib.hid (ho2.rd (be16_bytes Hnum.out.sp)); have Hs2 := Lib.hid (ho2.addr (by omega)); have Hk2 := Lib.hid (blk_on Hk1.out hb2); have Hb2 := Lib.hid hb2; clear ho2 hb2)
  refine hK.out _ _ ?_ (fun hHeld => ?_)
  · exact cells3 Hk2.out
  clear hK K
  try simp only [Act.put, putL]
  refine tkC 6 rfl (fun K hK => ?_)
  go_simp
  (go_at_call 41; refine (word_row dp _ Hnum.out.dp).mono ?_; rintro e w3 ⟨A3, c3, rfl, k3, m3, ho3, hb3⟩; have Hr3 := Lib.hid (ho3.rd (be16_bytes Hnum.out.dp)); have Hs3 := Lib.hid (ho3.addr (by omega)); have Hk3 := Lib.hid (blk_on Hk2.out hb3); have Hb3 := Lib.hid hb3; clear ho3 hb3)
  refine hK.out _ _ ?_ (fun hHeld => ?_)
  · exact cells3 Hk3.out
  clear hK K
  try simp only [Act.put, putL]
  refine tkC 9 rfl (fun K hK => ?_)
  go_simp
  (go_at_call 41; refine (word_row (8 + (n : Int)) _ Hlg.out).mono ?_; rintro e w4 ⟨A4, c4, rfl, k4, m4, ho4, hb4⟩; have Hr4 := Lib.hid (ho4.rd (be16_bytes Hlg.out)); have Hs4 := Lib.hid (ho4.addr (by omega)); have Hk4 := Lib.hid (blk_on Hk3.out hb4); have Hb4 := Lib.hid hb4; clear ho4 hb4)
  refine hK.out _ _ ?_ (fun hHeld => ?_)
  · exact cells3 Hk4.out
  clear hK K
  try simp only [Act.put, putL]
  refine tkC 10 rfl (fun K hK => ?_)
  go_simp
  skip
  refine hK.out _ _ ?_ (fun hHeld => ?_)
  · exact cells3 (blk_on Hk4.out ((Below.refl _ _).alloc (Nat.le_refl _) _))
  clear hK K
  try simp only [Act.put, putL]
  refine tkC 11 rfl (fun K hK => ?_)
  go_simp
  (go_at_call 40; refine (ulay_any (z + 2) (z + 1) _ 3 3 [be16 sp, be16 dp, be16 (8 + (n : Int))] none 0 0 [] 6 _ (by omega) (by omega) (by have := Hs1.out; have := Hb2.out.size; have := Hb3.out.size; have := Hb4.out.size; simp; omega) (((((Hx1.out.below Hb2.out (by have := Hs1.out; omega)).below Hb3.out (by have := Hs1.out; have := Hb2.out.size; omega)).below Hb4.out (by have := Hs1.out; have := Hb2.out.size; have := Hb3.out.size; omega))).alloc _) (OwnB.nil _ _) (fun w' hb => RdL.threeBut w4 w' _ rfl 22 A2 A3 A4 2 c2 2 c3 2 c4 _ _ _ hb (by have := Hs1.out; have := Hb2.out.size; have := Hb3.out.size; have := Hb4.out.size; simp; omega) ⟨k2, m2⟩ ⟨k3, m3⟩ ⟨k4, m4⟩ ((Hr2.out.below Hb3.out).below Hb4.out) (Hr3.out.below Hb4.out) Hr4.out (apt Hs2.out (by have := Hs1.out; omega)) (apt Hs3.out (by have := Hs1.out; have := Hb2.out.size; omega)) (apt Hs4.out (by have := Hs1.out; have := Hb2.out.size; have := Hb3.out.size; omega))) (by simp [be16]) (by omega)).mono ?_; rintro e w5 ⟨rfl, ⟨A5, c5, hx5, ho5⟩, hb5⟩; have Hk5 := Lib.hid (hb5.blk (blk_on Hk4.out ((Below.refl _ _).alloc (Nat.le_refl _) _)) (by simp)); have Hx5 := Lib.hid hx5; have Ho5 := Lib.hid ho5; have Hb5 := Lib.hid hb5; clear hx5 ho5 hb5)
  refine hK.out _ _ ?_ (fun hHeld => ?_)
  · exact cells3 Hk5.out
  clear hK K
  try simp only [Act.put, putL]
  refine wpAnyH_done (by kernel_rfl) ?_ _
  have Hsz := Lib.hid (show z + 2 ≤ w4.heap.size by have := Hs1.out; have := Hb2.out.size; have := Hb3.out.size; have := Hb4.out.size; omega)
  have Hba := Lib.hid (below_trans Hb1.out (below_trans Hb2.out (below_trans Hb3.out (below_trans Hb4.out ((Below.refl _ _).alloc (Nat.le_refl _) (.cells #[.slice A2 2 c2, .slice A3 2 c3, .slice A4 2 c4] 22))))))
  have Hd5 := Lib.hid ((((((Hd1.out.below Hb2.out).below Hb3.out).below Hb4.out).below ((Below.refl _ _).alloc (Nat.le_refl _) (.cells #[.slice A2 2 c2, .slice A3 2 c3, .slice A4 2 c4] 22))).but Hb5.out (fun g o e h0 hh => by
    have := Hdz.out g o e h0
    rcases hh with hh | hh
    · omega
    · cases hh)))
  have Hbw := Lib.hid (Hba.out.trans (Hb5.out.below (B := w.heap.size) (fun k hk => by
    have := Hz.out
    rcases hk with hk | hk
    · omega
    · cases hk) (by have := Hsz.out; have := Hz.out; simp; omega)))
  have hf : ([] ++ [be16 sp, be16 dp, be16 (8 + (n : Int))].flatten : List Int) = hdU ⟨sp, dp, d⟩ := by simp [hdU, Hlen.out]
  rw [hf, show 0 + 6 = 6 from rfl] at Ho5
  rw [show 0 + 6 = 6 from rfl] at Hx5
  have Hr5 := Lib.hid (Ho5.out.rd (hdU_bytes Hnum.out (by have := Hlen.out; show d.length ≤ 1472; omega)))
  have Hc5 := Lib.hid (And.intro Ho5.out.cap Ho5.out.capMax)
  have Hs5 := Lib.hid (show z + 2 ≤ w5.heap.size by have := Hsz.out; have := Hb5.out.size; simp at this; omega)
  obtain ⟨fd, efd⟩ : ∃ fd, fieldU src dst ⟨sp, dp, d⟩ = fd := ⟨_, rfl⟩
  have Hfdb := Lib.hid (show 0 ≤ fd ∧ fd < 65536 by rw [← efd]; have : 0 < fieldU src dst ⟨sp, dp, d⟩ ∧ fieldU src dst ⟨sp, dp, d⟩ < 65536 := fldU_bd _; omega)
  have Hfd := Lib.hid (show fldU ([pseudoL src dst 17 (8 + (n : Int)), hdU ⟨sp, dp, d⟩, d] : List (List Int)).flatten = fd by rw [← efd]; unfold fieldU; rw [Hlen.out]; simp)
  have Efd := Lib.hid efd
  clear efd hf Hk1 Hk2 Hk3 Hk4 Hx1 Hd1 Hb1 Hs1 Hs2 Hs3 Hs4 Hr2 Hr3 Hr4 Hb2 Hb3 Hb4 Hb5 Hba Hsz hHeld k2 m2 k3 m3 k4 m4
  obtain ⟨A5v, eA5⟩ : ∃ A5v, A5 = A5v := ⟨_, rfl⟩
  subst eA5
  go_wp2_with fail
  refine wp_region_held_drew (S := fun w' => w'.cell? ⟨z, 0, none⟩ = some (.int .u16 sp) ∧ w'.cell? ⟨z, 1, none⟩ = some (.int .u16 dp) ∧ w'.cell? ⟨z, 2, none⟩ = some (.slice A n c) ∧ w'.cell? ⟨z + 1, 0, none⟩ = some (.slice A5 6 c5)) (by kernel_rfl) ⟨(cells3 Hk5.out).1, (cells3 Hk5.out).2.1, (cells3 Hk5.out).2.2, Box.cell Hx5.out⟩ (fun hHeld => ?_)
  have hdr : Below w5.heap.size w5 w5.drew := Below.drew (Below.refl _ _)
  have Hk5 := Lib.hid (blk_on Hk5.out hdr)
  have Hx5 := Lib.hid (blk_on Hx5.out hdr)
  have Ho5 := Lib.hid (Ho5.out.on hdr)
  have Hr5 := Lib.hid (Hr5.out.below hdr)
  have Hd5 := Lib.hid (Hd5.out.below hdr)
  have Hbw := Lib.hid (below_trans Hbw.out hdr)
  have Hs5 := Lib.hid (show z + 2 ≤ w5.drew.heap.size from Hs5.out)
  clear hdr
  obtain ⟨we, ewe⟩ : ∃ we, w5.drew = we := ⟨_, rfl⟩
  rw [ewe] at Hk5 Hx5 Ho5 Hr5 Hd5 Hbw Hs5 hHeld ⊢
  clear ewe
  refine tk 0 ?_ rfl ?_ ?_
  rotate_left
  · intro w' hSw; (go_simp <;> (with_reducible rfl))
  try simp only [Act.put, putL]
  refine tk 1 ?_ rfl ?_ ?_
  rotate_left
  · intro w' hSw; (go_simp <;> (with_reducible rfl))
  try simp only [Act.put, putL]
  refine tk 2 ?_ rfl ?_ ?_
  rotate_left
  · intro w' hSw; (go_simp <;> (with_reducible rfl))
  try simp only [Act.put, putL]
  refine tk 4 ?_ rfl ?_ ?_
  rotate_left
  · intro w' hSw; (go_simp <;> (with_reducible rfl))
  try simp only [Act.put, putL]
  refine tk 5 ?_ rfl ?_ ?_
  rotate_left
  · intro w' hSw; (go_simp <;> (with_reducible rfl))
  try simp only [Act.put, putL]
  refine tk 6 ?_ rfl ?_ ?_
  rotate_left
  · intro w' hSw; (go_simp <;> (with_reducible rfl))
  try simp only [Act.put, putL]
  refine tkC 3 rfl (fun K hK => ?_)
  go_simp
  (go_at_call 43; refine (pseudo_any src dst 17 (8 + (n : Int)) _ (by omega)).mono ?_; rintro e w6 ⟨A6, c6, rfl, k6, m6, ho6, hb6⟩; have Hr6 := Lib.hid (ho6.rd (pseudo_byte _ _ _ _ (by omega))); have Hk6 := Lib.hid (blk_on Hk5.out hb6); have Hx6 := Lib.hid (blk_on Hx5.out hb6); have Hb6 := Lib.hid hb6; clear ho6 hb6)
  refine hK.out _ _ ?_ (fun hHeld => ?_)
  · exact ⟨(cells3 Hk6.out).1, (cells3 Hk6.out).2.1, (cells3 Hk6.out).2.2, Box.cell Hx6.out⟩
  clear hK K
  try simp only [Act.put, putL]
  refine tkC 7 rfl (fun K hK => ?_)
  go_simp
  skip
  refine hK.out _ _ ?_ (fun hHeld => ?_)
  · exact ⟨(cells3 (blk_on Hk6.out ((Below.refl _ _).alloc (Nat.le_refl _) _))).1, (cells3 (blk_on Hk6.out ((Below.refl _ _).alloc (Nat.le_refl _) _))).2.1, (cells3 (blk_on Hk6.out ((Below.refl _ _).alloc (Nat.le_refl _) _))).2.2, Box.cell (Box.alloc Hx6.out _)⟩
  clear hK K
  try simp only [Act.put, putL]
  refine tkC 8 rfl (fun K hK => ?_)
  go_simp
  (go_at_call 42; refine (fieldof_any _ 3 3 [pseudoL src dst 17 (8 + (n : Int)), hdU ⟨sp, dp, d⟩, d] _ fd (by omega) (RdL.threeU w6 _ rfl 22 A6 A5 A 12 c6 6 c5 n c _ _ _ ⟨k6, m6⟩ Hc5.out Hc.out Hr6.out (Hr5.out.below Hb6.out) (Hd5.out.below Hb6.out)) Hfd.out).mono ?_; rintro e w7 ⟨rfl, hb7⟩; have Hbb7 := Lib.hid (on_alloc hb7); have Hk7 := Lib.hid (blk_on Hk6.out Hbb7.out); have Hx7 := Lib.hid (blk_on Hx6.out Hbb7.out); clear hb7)
  refine hK.out _ _ ?_ (fun hHeld => ?_)
  · exact ⟨(cells3 Hk7.out).1, (cells3 Hk7.out).2.1, (cells3 Hk7.out).2.2, Box.cell Hx7.out⟩
  clear hK K
  try simp only [Act.put, putL]
  refine tk 9 ?_ rfl ?_ ?_
  rotate_left
  · intro w' hSw; (go_simp <;> (with_reducible rfl))
  try simp only [Act.put, putL]
  refine wpAnyH_done (by kernel_rfl) ?_ _
  have Hs7 := Lib.hid (show z + 2 ≤ w7.heap.size by have := Hs5.out; have := Hb6.out.size; have := Hbb7.out.size; omega)
  have Hd7 := Lib.hid ((Hd5.out.below Hb6.out).below Hbb7.out)
  have Ho7 := Lib.hid ((Ho5.out.on Hb6.out).on Hbb7.out)
  have Hb7 := Lib.hid (below_trans Hbw.out (below_trans Hb6.out Hbb7.out))
  clear Hk5 Hx5 Hd5 Hs5 Ho5 Hbw Hk6 Hx6 Hb6 Hbb7 Hr5 Hr6 hHeld k6 m6
  go_wp2_with fail
  refine wp_region_held_drew (S := fun w' => w'.cell? ⟨z, 0, none⟩ = some (.int .u16 sp) ∧ w'.cell? ⟨z, 1, none⟩ = some (.int .u16 dp) ∧ w'.cell? ⟨z, 2, none⟩ = some (.slice A n c)) (by kernel_rfl) (cells3 Hk7.out) (fun hHeld => ?_)
  have hdr : Below w7.heap.size w7 w7.drew := Below.drew (Below.refl _ _)
  have Hk7 := Lib.hid (blk_on Hk7.out hdr)
  have Hx7 := Lib.hid (blk_on Hx7.out hdr)
  have Ho7 := Lib.hid (Ho7.out.on hdr)
  have Hd7 := Lib.hid (Hd7.out.below hdr)
  have Hb7 := Lib.hid (below_trans Hb7.out hdr)
  have Hs7 := Lib.hid (show z + 2 ≤ w7.drew.heap.size from Hs7.out)
  clear hdr
  obtain ⟨wf, ewf⟩ : ∃ wf, w7.drew = wf := ⟨_, rfl⟩
  rw [ewf] at Hk7 Hx7 Ho7 Hd7 Hb7 Hs7 hHeld ⊢
  clear ewf
  have Ha7 := Lib.hid (Ho7.out.addr (by omega))
  have Hg8 := Lib.hid (show ∀ k, wf.heap.size ≤ k → ¬ (k = z + 1 ∨ A5 = some ⟨k, 0, none⟩) from fun k hk hh => by
    have := Hs7.out
    rcases hh with hh | hh
    · omega
    · obtain ⟨g, e, _, _⟩ := Ha7.out; rw [e] at hh; injection hh with hh; injection hh with hh; omega)
  have Hg9 := Lib.hid (show ∀ k, k ≤ z → ¬ (k = z + 1 ∨ A5 = some ⟨k, 0, none⟩) from fun k hk hh => by
    rcases hh with hh | hh
    · omega
    · obtain ⟨g, e, _, _⟩ := Ha7.out; rw [e] at hh; injection hh with hh; injection hh with hh; omega)
  refine tk 0 ?_ rfl ?_ ?_
  rotate_left
  · intro w' hSw; (go_simp <;> (with_reducible rfl))
  try simp only [Act.put, putL]
  refine tk 1 ?_ rfl ?_ ?_
  rotate_left
  · intro w' hSw; (go_simp <;> (with_reducible rfl))
  try simp only [Act.put, putL]
  refine tk 3 ?_ rfl ?_ ?_
  rotate_left
  · intro w' hSw; (go_simp <;> (with_reducible rfl))
  try simp only [Act.put, putL]
  refine tk 4 ?_ rfl ?_ ?_
  rotate_left
  · intro w' hSw; (go_simp <;> (with_reducible rfl))
  try simp only [Act.put, putL]
  refine tkC 2 rfl (fun K hK => ?_)
  go_simp
  (go_at_call 41; refine (word_row fd _ Hfdb.out).mono ?_; rintro e w8 ⟨A8, c8, rfl, k8, m8, ho8, hb8⟩; have Hr8 := Lib.hid (ho8.rd (be16_bytes Hfdb.out)); have Hs8 := Lib.hid (ho8.addr (by omega)); have Hk8 := Lib.hid (blk_on Hk7.out hb8); have Hx8 := Lib.hid (blk_on Hx7.out hb8); have Hb8 := Lib.hid hb8; clear ho8 hb8)
  refine hK.out _ _ ?_ (fun hHeld => ?_)
  · exact cells3 Hk8.out
  clear hK K
  try simp only [Act.put, putL]
  refine tkC 5 rfl (fun K hK => ?_)
  go_simp
  skip
  refine hK.out _ _ ?_ (fun hHeld => ?_)
  · exact cells3 (blk_on Hk8.out ((Below.refl _ _).alloc (Nat.le_refl _) _))
  clear hK K
  try simp only [Act.put, putL]
  refine tkC 6 rfl (fun K hK => ?_)
  go_simp
  (go_at_call 40; refine (ulay_any (z + 2) (z + 1) _ 2 2 [be16 fd, d] A5 6 c5 (hdU ⟨sp, dp, d⟩) (2 + n) _ (by omega) (by omega) (by have := Hs7.out; have := Hb8.out.size; simp; omega) (Box.alloc Hx8.out _) ((Ho7.out.on Hb8.out).alloc _) (fun w' hb => RdL.twoBut w8 w' _ rfl 22 A8 A 2 c8 n c _ _ hb (Hg8.out _ (by have := Hb8.out.size; omega)) ⟨k8, m8⟩ Hc.out Hr8.out (Hd7.out.below Hb8.out) (fun k o e => Hg8.out k (by obtain ⟨g8, e8, h8, _⟩ := Hs8.out; rw [e8] at e; injection e with e; injection e with e; omega)) (fun k o e h0 => Hg9.out k (Nat.le_of_lt (Hdz.out k o e h0)))) (by have := Hlen.out; simp [be16]; omega) (by omega)).mono ?_; rintro e w9 ⟨rfl, ⟨A9, c9, hx9, ho9⟩, hb9⟩; have Hk9 := Lib.hid (hb9.blk (blk_on Hk8.out ((Below.refl _ _).alloc (Nat.le_refl _) _)) (Hg9.out z (by omega))); have Hx9 := Lib.hid hx9; have Ho9 := Lib.hid ho9; have Hb9 := Lib.hid hb9; clear hx9 ho9 hb9)
  refine hK.out _ _ ?_ (fun hHeld => ?_)
  · exact cells3 Hk9.out
  clear hK K
  try simp only [Act.put, putL]
  refine wpAnyH_done (by kernel_rfl) ?_ _
  have hx9 := Box.cell Hx9.out
  have hl9 : (hdU ⟨sp, dp, d⟩ ++ [be16 fd, d].flatten : List Int) = dgB src dst ⟨sp, dp, d⟩ := by unfold dgB; rw [Efd.out]; simp
  rw [hl9, show 6 + (2 + n) = 8 + n by omega] at Ho9
  rw [show 6 + (2 + n) = 8 + n by omega] at Hx9
  rw [show 6 + (2 + n) = 8 + n by omega] at hx9
  have Hbz := Lib.hid ((below_trans Hb7.out (below_trans Hb8.out ((Below.refl _ _).alloc (Nat.le_refl _) (.cells #[.slice A8 2 c8, .slice A n c] 22)))).trans (Hb9.out.below (B := w.heap.size) (fun k hk => by
    have := Hz.out
    rcases hk with hk | hk
    · omega
    · obtain ⟨g, e, _, _⟩ := Ha7.out; rw [e] at hk; injection hk with hk; injection hk with hk; omega) (by have := Hs7.out; have := Hb8.out.size; have := Hz.out; simp; omega)))
  clear Hk7 Hx7 Ho7 Hd7 Hb7 Hs7 Ha7 Hg8 Hg9 Hk8 Hx8 Hb8 Hs8 Hr8 k8 m8 Hb9 Hk9 Hx9 hHeld hl9
  go_wp2_with fail
  go_ret2
  exact ⟨A9, c9, rfl, Ho9.out.cap, Ho9.out.capMax, Ho9.out.mono (by have := Hz.out; omega), Hbz.out⟩
end Go.Proofs.Ytoegfgbalcholaa

/-
  The contract of the closure within package udp's Parse: what is wrong is told in the document's own order; else the datagram, its data in a row of the call's own.
-/
namespace Go.Proofs.Ytoegfgbalcholaa
set_option maxRecDepth 10000
open Go.RowKit

end Go.Proofs.Ytoegfgbalcholaa

/-
  Plain mathematics of a datagram's bytes: they are read again, whichever way the addresses stand; with another sum they are refused. No function of the program.
-/
namespace Go.Proofs.Ytoegfgbalcholaa
set_option maxRecDepth 10000
open Go.RowKit

theorem ws_pseudoU (s d p n : Int) (hs : 0 ≤ s ∧ s < 4294967296) (hd : 0 ≤ d ∧ d < 4294967296) (hn : 0 ≤ n ∧ n < 65536) : ws false (pseudoL s d p n) = s / 65536 + s % 65536 + (d / 65536 + d % 65536) + p + n := by
  simp [pseudoL, ws]; omega
theorem pseudo_even (a b c d : Int) : (pseudoL a b c d).length % 2 = 0 := by simp [pseudoL]
theorem ws_be16 (x : Int) : ws false (be16 x) = x := by simp [be16, ws]; omega
/-- What is summed beside the pseudo header and the field. -/
def restU (s : Dg) : Int := ws false (hdU s) + ws false s.d
theorem restU_nn {s : Dg} (h : DgNum s) (hl : s.d.length ≤ 1472) (hd : ∀ x ∈ s.d, 0 ≤ x ∧ x < 256) : 0 ≤ restU s := by
  have h1 := ws_nn (hdU s) (hdU_bytes h hl) false
  have h2 := ws_nn s.d hd false
  unfold restU; omega
theorem ws_dgB (src dst : Int) (s : Dg) : ws false (dgB src dst s) = restU s + fieldU src dst s := by
  unfold dgB restU
  rw [ws_even _ _ (by rw [hdU_len]), ws_even _ _ (by simp [be16]), ws_be16]; omega
theorem fieldU_mod (src dst : Int) (s : Dg) (hs : 0 ≤ src ∧ src < 4294967296) (hd : 0 ≤ dst ∧ dst < 4294967296) (hl : s.d.length ≤ 1472) (hr : 0 ≤ restU s) :
    (src / 65536 + src % 65536 + (dst / 65536 + dst % 65536) + 17 + (8 + (s.d.length : Int)) + restU s + fieldU src dst s) % 65535 = 0 := by
  unfold fieldU fldU sumL
  rw [ws_even _ _ (pseudo_even _ _ _ _), ws_even _ _ (by rw [hdU_len]), ws_pseudoU _ _ _ _ hs hd (by omega)]
  unfold restU at hr ⊢
  obtain ⟨R, hR⟩ : ∃ R, ws false (hdU s) + ws false s.d = R := ⟨_, rfl⟩
  rw [hR] at hr ⊢
  obtain ⟨T, hT⟩ : ∃ T, src / 65536 + src % 65536 + (dst / 65536 + dst % 65536) + 17 + (8 + (s.d.length : Int)) + R = T := ⟨_, rfl⟩
  rw [hT]
  have hp : 0 < T := by omega
  unfold fold16
  rw [if_neg (show ¬ T ≤ 0 by omega)]
  split <;> omega

theorem dgB_list (src dst : Int) (s : Dg) : dgB src dst s = s.sp / 256 :: s.sp % 256 :: s.dp / 256 :: s.dp % 256 :: (8 + (s.d.length : Int)) / 256 :: (8 + (s.d.length : Int)) % 256 :: fieldU src dst s / 256 :: fieldU src dst s % 256 :: s.d := by
  simp [dgB, hdU, be16]
end Go.Proofs.Ytoegfgbalcholaa
