/-
  The contract of package udp's Parse: what is wrong is told in the document's own order; else the datagram, its data in a row of the call's own.
-/
import Derived.Test.YtoblllgefmajiaaUdpRead
import Derived.Deep.CutRange
namespace Go.Proofs.Ytoblllgefmajiaa
set_option maxRecDepth 10000
open Go.RowKit

/-- What Parse tells where something is wrong. -/
def DgBad (x : Int) (w : World) (e : Ending) (w' : World) : Prop := e = .returned (.tuple #[.agg #[.int .u16 0, .int .u16 0, .slice none 0 0], .int .i64 x]) ∧ Below w.heap.size w w'
/-- What Parse tells of bytes that are a datagram. -/
def DgGood (s : Dg) (m : Nat) (w : World) (e : Ending) (w' : World) : Prop :=
  ∃ AD cD, e = .returned (.tuple #[.agg #[.int .u16 s.sp, .int .u16 s.dp, .slice AD m cD], .int .i64 0]) ∧ m ≤ cD ∧ cD ≤ maxLen ∧ OwnB w' w.heap.size AD m cD s.d ∧ Below w.heap.size w w'
theorem set3_cells {w : World} {q : Nat} {u0 u1 u2 : Value} {t : TypeId} (h : w.heap[q]? = some (.cells #[u0, u1, u2] t (0, 0))) (v0 v1 v2 : Value) :
    (((w.setCell ⟨q, 0, none⟩ v0).setCell ⟨q, 1, none⟩ v1).setCell ⟨q, 2, none⟩ v2).cell? ⟨q, 0, none⟩ = some v0 ∧ (((w.setCell ⟨q, 0, none⟩ v0).setCell ⟨q, 1, none⟩ v1).setCell ⟨q, 2, none⟩ v2).cell? ⟨q, 1, none⟩ = some v1 ∧ (((w.setCell ⟨q, 0, none⟩ v0).setCell ⟨q, 1, none⟩ v1).setCell ⟨q, 2, none⟩ v2).cell? ⟨q, 2, none⟩ = some v2 :=
  cells3 (set3_blk h v0 v1 v2)

theorem uparse_long (src dst : Int) (A : Option Addr) (n c : Nat) (w : World) (h1 : 1480 < n) :
    Calls Try.prog 39 #[.int .u32 src, .int .u32 dst, .slice A n c] w (DgBad 3 w) := by
  have hal : Below w.heap.size w w := Below.refl _ _
  have i1 : 1480 < (n : Int) := by omega
  clear h1
  obtain ⟨z, hz⟩ : ∃ z, w.heap.size = z := ⟨_, rfl⟩
  go_enter Try.func39, Try.ntmps39
  go_upto_region 2 with (fail)
  obtain ⟨w0, hw0⟩ : ∃ w0, w0 = (((w.alloc (.cells #[.int .u32 src] 22)).alloc (.cells #[.int .u32 dst] 22)).alloc (.cells #[.slice A n c] 25)).alloc (.cells #[.int .u16 0, .int .u16 0, .slice none 0 0] 57) := ⟨_, rfl⟩
  rw [← hw0]
  have hb0 : Below w.heap.size w w0 := by rw [hw0]; exact (((hal.alloc (Nat.le_refl _) _).alloc (by simp) _).alloc (by simp <;> omega) _).alloc (by simp <;> omega) _
  have hrb : w0.heap[z + 3]? = some (.cells #[.int .u16 0, .int .u16 0, .slice none 0 0] 57 (0, 0)) := by
    rw [hw0, ← hz]
    have := heap_alloc_new (((w.alloc (.cells #[.int .u32 src] 22)).alloc (.cells #[.int .u32 dst] 22)).alloc (.cells #[.slice A n c] 25)) (.cells #[.int .u16 0, .int .u16 0, .slice none 0 0] 57)
    simpa using this
  have HB := Lib.hid hb0
  have HS9 := Lib.hid (set3_cells hrb)
  obtain ⟨r0, r1, r2⟩ := cells3 hrb
  have rf := blk_free hrb
  have Hz := Lib.hid hz
  clear hrb hw0 hb0 hal hz
  go_wp2_with fail
  have hz := Hz.out
  obtain ⟨s0, s1, s2⟩ := HS9.out (.int .u16 0) (.int .u16 0) (.slice none 0 0)
  refine bodyPost_ret (v := .tuple #[.agg #[.int .u16 0, .int .u16 0, .slice none 0 0], .int .i64 3]) (by simp [results, Try.results39, go_sem, s0, s1, s2]) rfl ⟨rfl, ?_⟩
  exact (((HB.out.setCell (by simp <;> omega) _).setCell (by simp <;> omega) _).setCell (by simp <;> omega) _)

theorem uparse_bad (src dst : Int) (A : Option Addr) (n c : Nat) (b : List Int) (x : Int) (w : World) (hc : n ≤ c ∧ c ≤ maxLen) (hn : n ≤ 1480) (hA : Rd w A n b) (hx : errU src dst b = x) (h0 : x ≠ 0) :
    Calls Try.prog 39 #[.int .u32 src, .int .u32 dst, .slice A n c] w (DgBad x w) := by
  have hmf : ∀ (fn : Fn) (first cap : Array Value) (w : World), (Instr.makeFunc fn first cap).run Try.prog w = .ok (.func fn first cap) w := fun _ _ _ _ => rfl
  have hal : Below w.heap.size w w := Below.refl _ _
  have HA := Lib.hid hA
  have Hx := Lib.hid hx
  have hni : (n : Int) ≤ 1480 := by omega
  clear hA hx
  obtain ⟨z, hz⟩ : ∃ z, w.heap.size = z := ⟨_, rfl⟩
  go_enter Try.func39, Try.ntmps39
  go_wp2_with fail
  obtain ⟨w0, hw0⟩ : ∃ w0, w0 = ((((w.alloc (.cells #[.int .u32 src] 22)).alloc (.cells #[.int .u32 dst] 22)).alloc (.cells #[.slice A n c] 25)).alloc (.cells #[.int .u16 0, .int .u16 0, .slice none 0 0] 57)).alloc (.cells #[.int .u16 0, .int .u16 0, .slice none 0 0] 57) := ⟨_, rfl⟩
  rw [← hw0]
  have hsz : w0.heap.size = z + 5 := by rw [hw0, ← hz]; simp
  have hb0 : Below w.heap.size w w0 := by rw [hw0]; exact ((((hal.alloc (Nat.le_refl _) _).alloc (by simp) _).alloc (by simp <;> omega) _).alloc (by simp <;> omega) _).alloc (by simp <;> omega) _
  have h1 : Box w0 z 22 (.int .u32 src) := by rw [hw0, ← hz]; exact ((((Box.new w _ _).alloc _).alloc _).alloc _).alloc _
  have h2 : Box w0 (z + 1) 22 (.int .u32 dst) := by
    rw [hw0, ← hz]
    have := Box.new (w.alloc (.cells #[.int .u32 src] 22)) 22 (.int .u32 dst)
    exact (((by simpa using this : Box _ (w.heap.size + 1) _ _).alloc _).alloc _).alloc _
  have h3 : Box w0 (z + 2) 25 (.slice A n c) := by
    rw [hw0, ← hz]
    have := Box.new ((w.alloc (.cells #[.int .u32 src] 22)).alloc (.cells #[.int .u32 dst] 22)) 25 (.slice A n c)
    exact ((by simpa using this : Box _ (w.heap.size + 2) _ _).alloc _).alloc _
  have h4 : w0.heap[z + 3]? = some (.cells zeroU 57 (0, 0)) := by
    rw [hw0, ← hz]
    have := heap_alloc_new (((w.alloc (.cells #[.int .u32 src] 22)).alloc (.cells #[.int .u32 dst] 22)).alloc (.cells #[.slice A n c] 25)) (.cells #[.int .u16 0, .int .u16 0, .slice none 0 0] 57)
    rw [Below.heap_alloc _ _ _ (by simp)]
    simpa [zeroU] using this
  have h5 : w0.heap[z + 4]? = some (.cells zeroU 57 (0, 0)) := by
    rw [hw0, ← hz]
    have := heap_alloc_new ((((w.alloc (.cells #[.int .u32 src] 22)).alloc (.cells #[.int .u32 dst] 22)).alloc (.cells #[.slice A n c] 25)).alloc (.cells #[.int .u16 0, .int .u16 0, .slice none 0 0] 57)) (.cells #[.int .u16 0, .int .u16 0, .slice none 0 0] 57)
    simpa [zeroU] using this
  have hr0 := HA.out.below hb0
  clear hw0
  have hdo := fun w1 g (hb : Below w0.heap.size w0 w1) (_ : w0.heap.size ≤ g) (_ : g < w1.heap.size) (hR : Rdr w1 w0.heap.size g b 0) =>
    uparse1_any w0.heap.size g z (z + 1) (z + 2) (z + 4) n c src dst A w1 (by omega) hn b hc (fun h x o e => by
      obtain ⟨x', o', e', hlt, _⟩ := hr0.at_ h
      rw [e] at e'; injection e' with e'; injection e' with e'; subst e'; exact hlt) (hr0.below hb) (h1.below hb (by omega)) (h2.below hb (by omega)) (h3.below hb (by omega)) ((hb.block _ (by omega)).trans h5) hR
  have hread := read_any (fun k => k = z + 4) _ n c #[.pointer (some ⟨z + 2, 0, none⟩), .pointer (some ⟨z, 0, none⟩), .pointer (some ⟨z + 1, 0, none⟩), .pointer (some ⟨z + 4, 0, none⟩)] _ (fun _ => rfl) A b (DgR (z + 4) src dst b) w0 (fun k hk => by omega) (by omega) hr0 (enter_of Try.func77 (by kernel_rfl) rfl) hdo
  have Hb0 := Lib.hid hb0
  have Hc3 := h3.cell
  have H4 := Lib.hid h4
  have Hsz := Lib.hid hsz
  have Hz := Lib.hid hz
  clear hb0 h1 h2 h3 h4 h5 hr0 hdo hal hsz hz
  refine hread.mono ?_
  clear hread
  rintro e w5 ⟨x', w1, w4, rfl, hb1, ⟨hxe, hR⟩, hb4, hb5⟩
  rw [Hx.out] at hxe
  subst hxe
  rcases hR with ⟨_, hq⟩ | ⟨h, _⟩
  rotate_left 1
  · exact absurd h h0
  have hsz := Hsz.out
  have hz := Hz.out
  have hqb := hb4.blk hq (by omega)
  have hrb := hb5.blk H4.out (by omega)
  unfold zeroU at hqb hrb
  have hB := Hb0.out.trans (hb5.below (B := w.heap.size) (fun k hk => by omega) Hb0.out.size)
  have HB := Lib.hid hB
  obtain ⟨q0, q1, q2⟩ := cells3 hqb
  obtain ⟨r0, r1, r2⟩ := cells3 hrb
  have rf := blk_free hrb
  have HS9 := Lib.hid (set3_cells hrb)
  clear hqb hrb hq hb1 hb4 hb5 hsz hB
  clear hz
  go_wp2_with fail
  have hz := Hz.out
  obtain ⟨s0, s1, s2⟩ := HS9.out (.int .u16 0) (.int .u16 0) (.slice none 0 0)
  refine bodyPost_ret (v := .tuple #[.agg #[.int .u16 0, .int .u16 0, .slice none 0 0], .int .i64 x']) (by simp [results, Try.results39, go_sem, s0, s1, s2]) rfl ⟨rfl, ?_⟩
  exact (((HB.out.setCell (by simp <;> omega) _).setCell (by simp <;> omega) _).setCell (by simp <;> omega) _)

theorem uparse_good (src dst : Int) (A : Option Addr) (n c m : Nat) (b : List Int) (sp dp : Int) (d : List Int) (w : World) (hc : n ≤ c ∧ c ≤ maxLen) (hn : n ≤ 1480) (hA : Rd w A n b) (hx : errU src dst b = 0) (hS : dgOf b = ⟨sp, dp, d⟩) (hm : d.length = m) :
    Calls Try.prog 39 #[.int .u32 src, .int .u32 dst, .slice A n c] w (DgGood ⟨sp, dp, d⟩ m w) := by
  have Hlm := Lib.hid (show b.length - 8 = m by rw [← hm, show d = (dgOf b).d by rw [hS]]; simp [dgOf])
  have Hd := Lib.hid (show b.drop 8 = d by rw [show d = (dgOf b).d by rw [hS]]; rfl)
  have HS := Lib.hid hS
  clear hS hm
  have hmf : ∀ (fn : Fn) (first cap : Array Value) (w : World), (Instr.makeFunc fn first cap).run Try.prog w = .ok (.func fn first cap) w := fun _ _ _ _ => rfl
  have hal : Below w.heap.size w w := Below.refl _ _
  have HA := Lib.hid hA
  have Hx := Lib.hid hx
  have hni : (n : Int) ≤ 1480 := by omega
  clear hA hx
  obtain ⟨z, hz⟩ : ∃ z, w.heap.size = z := ⟨_, rfl⟩
  go_enter Try.func39, Try.ntmps39
  go_wp2_with fail
  obtain ⟨w0, hw0⟩ : ∃ w0, w0 = ((((w.alloc (.cells #[.int .u32 src] 22)).alloc (.cells #[.int .u32 dst] 22)).alloc (.cells #[.slice A n c] 25)).alloc (.cells #[.int .u16 0, .int .u16 0, .slice none 0 0] 57)).alloc (.cells #[.int .u16 0, .int .u16 0, .slice none 0 0] 57) := ⟨_, rfl⟩
  rw [← hw0]
  have hsz : w0.heap.size = z + 5 := by rw [hw0, ← hz]; simp
  have hb0 : Below w.heap.size w w0 := by rw [hw0]; exact ((((hal.alloc (Nat.le_refl _) _).alloc (by simp) _).alloc (by simp <;> omega) _).alloc (by simp <;> omega) _).alloc (by simp <;> omega) _
  have h1 : Box w0 z 22 (.int .u32 src) := by rw [hw0, ← hz]; exact ((((Box.new w _ _).alloc _).alloc _).alloc _).alloc _
  have h2 : Box w0 (z + 1) 22 (.int .u32 dst) := by
    rw [hw0, ← hz]
    have := Box.new (w.alloc (.cells #[.int .u32 src] 22)) 22 (.int .u32 dst)
    exact (((by simpa using this : Box _ (w.heap.size + 1) _ _).alloc _).alloc _).alloc _
  have h3 : Box w0 (z + 2) 25 (.slice A n c) := by
    rw [hw0, ← hz]
    have := Box.new ((w.alloc (.cells #[.int .u32 src] 22)).alloc (.cells #[.int .u32 dst] 22)) 25 (.slice A n c)
    exact ((by simpa using this : Box _ (w.heap.size + 2) _ _).alloc _).alloc _
  have h4 : w0.heap[z + 3]? = some (.cells zeroU 57 (0, 0)) := by
    rw [hw0, ← hz]
    have := heap_alloc_new (((w.alloc (.cells #[.int .u32 src] 22)).alloc (.cells #[.int .u32 dst] 22)).alloc (.cells #[.slice A n c] 25)) (.cells #[.int .u16 0, .int .u16 0, .slice none 0 0] 57)
    rw [Below.heap_alloc _ _ _ (by simp)]
    simpa [zeroU] using this
  have h5 : w0.heap[z + 4]? = some (.cells zeroU 57 (0, 0)) := by
    rw [hw0, ← hz]
    have := heap_alloc_new ((((w.alloc (.cells #[.int .u32 src] 22)).alloc (.cells #[.int .u32 dst] 22)).alloc (.cells #[.slice A n c] 25)).alloc (.cells #[.int .u16 0, .int .u16 0, .slice none 0 0] 57)) (.cells #[.int .u16 0, .int .u16 0, .slice none 0 0] 57)
    simpa [zeroU] using this
  have hr0 := HA.out.below hb0
  clear hw0
  have hdo := fun w1 g (hb : Below w0.heap.size w0 w1) (_ : w0.heap.size ≤ g) (_ : g < w1.heap.size) (hR : Rdr w1 w0.heap.size g b 0) =>
    uparse1_any w0.heap.size g z (z + 1) (z + 2) (z + 4) n c src dst A w1 (by omega) hn b hc (fun h x o e => by
      obtain ⟨x', o', e', hlt, _⟩ := hr0.at_ h
      rw [e] at e'; injection e' with e'; injection e' with e'; subst e'; exact hlt) (hr0.below hb) (h1.below hb (by omega)) (h2.below hb (by omega)) (h3.below hb (by omega)) ((hb.block _ (by omega)).trans h5) hR
  have hread := read_any (fun k => k = z + 4) _ n c #[.pointer (some ⟨z + 2, 0, none⟩), .pointer (some ⟨z, 0, none⟩), .pointer (some ⟨z + 1, 0, none⟩), .pointer (some ⟨z + 4, 0, none⟩)] _ (fun _ => rfl) A b (DgR (z + 4) src dst b) w0 (fun k hk => by omega) (by omega) hr0 (enter_of Try.func77 (by kernel_rfl) rfl) hdo
  have Hb0 := Lib.hid hb0
  have Hc3 := h3.cell
  have H4 := Lib.hid h4
  have Hsz := Lib.hid hsz
  have Hz := Lib.hid hz
  clear hb0 h1 h2 h3 h4 h5 hr0 hdo hal hsz hz
  refine hread.mono ?_
  clear hread
  rintro e w5 ⟨x', w1, w4, rfl, hb1, ⟨hxe, hR⟩, hb4, hb5⟩
  rw [Hx.out] at hxe
  subst hxe
  rcases hR with ⟨h, _⟩ | ⟨_, AD, cD, hq, hd⟩
  · exact absurd rfl h
  have hsz := Hsz.out
  have hz := Hz.out
  have hqb := hb4.blk hq (by omega)
  have hrb := hb5.blk H4.out (by omega)
  have hd5 := hd.but hb4 (fun k hk e => by omega)
  rw [HS.out, Hlm.out] at hqb
  rw [Hlm.out, Hd.out] at hd5
  simp only at hqb
  unfold zeroU at hrb
  have hB := Hb0.out.trans (hb5.below (B := w.heap.size) (fun k hk => by omega) Hb0.out.size)
  have HB := Lib.hid hB
  obtain ⟨q0, q1, q2⟩ := cells3 hqb
  obtain ⟨r0, r1, r2⟩ := cells3 hrb
  have rf := blk_free hrb
  have HS9 := Lib.hid (set3_cells hrb)
  have Hset := Lib.hid (set3_but w5 (z + 3))
  have HD := Lib.hid hd5
  have hw1 : z + 5 ≤ w1.heap.size := by have := hb1.size; omega
  clear hqb hrb hq hb1 hb4 hb5 hsz hB hd hd5 hz
  go_wp2_with fail
  have hz := Hz.out
  obtain ⟨s0, s1, s2⟩ := HS9.out (.int .u16 sp) (.int .u16 dp) (.slice AD m cD)
  have Hset := Hset.out (.int .u16 sp) (.int .u16 dp) (.slice AD m cD)
  refine bodyPost_ret (v := .tuple #[.agg #[.int .u16 sp, .int .u16 dp, .slice AD m cD], .int .i64 0]) (by simp [results, Try.results39, go_sem, s0, s1, s2]) rfl ⟨AD, cD, rfl, HD.out.cap, HD.out.capMax, ?_, ?_⟩
  · exact (HD.out.but Hset (fun k hk e => by omega)).mono (by omega)
  · exact (((HB.out.setCell (by simp <;> omega) _).setCell (by simp <;> omega) _).setCell (by simp <;> omega) _)

/-- Parse, by whether something is wrong. -/
theorem uparse_err (src dst : Int) (A : Option Addr) (n c : Nat) (b : List Int) (x : Int) (w : World) (hc : n ≤ c ∧ c ≤ maxLen) (hA : Rd w A n b) (hx : errU src dst b = x) (h0 : x ≠ 0) :
    Calls Try.prog 39 #[.int .u32 src, .int .u32 dst, .slice A n c] w (DgBad x w) := by
  by_cases h1 : 1480 < n
  · have := uparse_long src dst A n c w h1
    rw [show x = 3 by rw [← hx]; unfold errU; rw [if_pos (by rw [hA.len]; exact h1)]]
    exact this
  · exact uparse_bad src dst A n c b x w hc (by omega) hA hx h0
theorem uparse_told (src dst : Int) (A : Option Addr) (n c m : Nat) (b : List Int) (sp dp : Int) (d : List Int) (w : World) (hc : n ≤ c ∧ c ≤ maxLen) (hA : Rd w A n b) (hx : errU src dst b = 0) (hS : dgOf b = ⟨sp, dp, d⟩) (hm : d.length = m) :
    Calls Try.prog 39 #[.int .u32 src, .int .u32 dst, .slice A n c] w (DgGood ⟨sp, dp, d⟩ m w) := by
  refine uparse_good src dst A n c m b sp dp d w hc ?_ hA hx hS hm
  rw [← hA.len]
  unfold errU at hx
  by_cases h3 : 1480 < b.length
  · rw [if_pos h3] at hx; omega
  · omega
end Go.Proofs.Ytoblllgefmajiaa
