/-
  The document's own buffer (culvertref19) in memory ('RefX'): New, at, Una, Nxt, End, Left, anew.
-/
import Derived.Test.YtncbkgcblmohoaaRxP
import Derived.Test.YtncbkgcblmohoaaTk
import Derived.Test.YtncbkgcblmohoaaSlV
import Derived.Test.YtncbkgcblmohoaaSeqNum
import Derived.Test.YtncbkgcblmohoaaRef03
import Derived.Deep.LoopGhost
import Derived.Deep.CutRange
import Derived.BigRegion
import Derived.BigQuiet
namespace Go.Proofs.Ytncbkgcblmohoaa
set_option maxRecDepth 10000
open Go.RowKit
set_option linter.unusedSimpArgs false
set_option linter.unusedVariables false

/-- Just the answer; just the answer and draws. -/
def JustX (v : Value) (w : World) (e : Ending) (w' : World) : Prop := e = .returned v ∧ w = w'
def DrawX (v : Value) (w : World) (e : Ending) (w' : World) : Prop := e = .returned v ∧ ∃ n, w' = w.drewN n
def cellsX (A : Option Addr) (n c : Nat) (first : Int) (a : Nat) (s : XS) : Array Value :=
  #[.slice A n c, .int .u32 first, .int .i64 (a : Int), .int .i64 ((a + s.sent : Nat) : Int), .int .u32 s.win, .int .u64 s.rto, .int .i64 s.tries, .int .u64 s.wait, .int .u64 s.alarm, .int .i64 s.count]
/-- The document's buffer in block g: all bytes that were written (W, in the row A), a of them acknowledged. -/
structure RefX (w : World) (T : Nat → Prop) (g : Nat) (A : Option Addr) (c : Nat) (first : Int) (W : List Int) (a : Nat) (s : XS) : Prop where
  box : w.heap[g]? = some (.cells (cellsX A W.length c first a s) 64 (0, 0))
  row : Rd w A W.length W
  cap : W.length ≤ c ∧ c ≤ maxLen
  fbd : 0 ≤ first ∧ first < 4294967296
  al : a ≤ W.length
  bs : s.bs = W.drop a
  una : s.una = numX (first + (a : Int))
  big : W.length ≤ 1000000000
  ok : OkX s
  sg : T g
  sr : ∀ b o, A = some ⟨b, o, none⟩ → 0 < W.length → T b
  lt : ∀ k, T k → k < w.heap.size
section
variable {w w' : World} {T V : Nat → Prop} {g c a : Nat} {A : Option Addr} {first : Int} {W : List Int} {s : XS}
theorem RefX.but (h : RefX w T g A c first W a s) (hb : But V w w') (hV : ∀ k, T k → ¬ V k) : RefX w' T g A c first W a s :=
  ⟨hb.blk h.box (hV _ h.sg), h.row.but hb (fun b o e h0 => hV _ (h.sr b o e h0)), h.cap, h.fbd, h.al, h.bs, h.una, h.big, h.ok, h.sg, h.sr, fun k hk => hb.lt (h.lt k hk)⟩
theorem RefX.on (h : RefX w T g A c first W a s) (hb : Below w.heap.size w w') : RefX w' T g A c first W a s := h.but (But.of (S := fun _ => False) hb) (fun _ _ h => h)
theorem RefX.drewN (h : RefX w T g A c first W a s) (n : Nat) : RefX (w.drewN n) T g A c first W a s := h.but (V := fun _ => False) ((But.refl _ _).drewN n) (fun _ _ h => h)
theorem RefX.blen (h : RefX w T g A c first W a s) : a + s.bs.length = W.length := by
  have := h.al
  rw [h.bs, List.length_drop]
  omega
theorem RefX.c0 (h : RefX w T g A c first W a s) : w.cell? ⟨g, 0, none⟩ = some (.slice A W.length c) := by rw [blk_cell h.box]; rfl
theorem RefX.c1 (h : RefX w T g A c first W a s) : w.cell? ⟨g, 1, none⟩ = some (.int .u32 first) := by rw [blk_cell h.box]; rfl
theorem RefX.c2 (h : RefX w T g A c first W a s) : w.cell? ⟨g, 2, none⟩ = some (.int .i64 (a : Int)) := by rw [blk_cell h.box]; rfl
theorem RefX.c3 (h : RefX w T g A c first W a s) : w.cell? ⟨g, 3, none⟩ = some (.int .i64 ((a + s.sent : Nat) : Int)) := by rw [blk_cell h.box]; rfl
theorem RefX.c4 (h : RefX w T g A c first W a s) : w.cell? ⟨g, 4, none⟩ = some (.int .u32 s.win) := by rw [blk_cell h.box]; rfl
theorem RefX.c5 (h : RefX w T g A c first W a s) : w.cell? ⟨g, 5, none⟩ = some (.int .u64 s.rto) := by rw [blk_cell h.box]; rfl
theorem RefX.c6 (h : RefX w T g A c first W a s) : w.cell? ⟨g, 6, none⟩ = some (.int .i64 s.tries) := by rw [blk_cell h.box]; rfl
theorem RefX.c7 (h : RefX w T g A c first W a s) : w.cell? ⟨g, 7, none⟩ = some (.int .u64 s.wait) := by rw [blk_cell h.box]; rfl
theorem RefX.c8 (h : RefX w T g A c first W a s) : w.cell? ⟨g, 8, none⟩ = some (.int .u64 s.alarm) := by rw [blk_cell h.box]; rfl
theorem RefX.c9 (h : RefX w T g A c first W a s) : w.cell? ⟨g, 9, none⟩ = some (.int .i64 s.count) := by rw [blk_cell h.box]; rfl
theorem RefX.free (h : RefX w T g A c first W a s) (i : Nat) : w.frozen? ⟨g, i, none⟩ = false := blk_free h.box i
theorem rat19_any (h : RefX w T g A c first W a s) (p x : Int) (hx : numX (first + p) = x) : Calls Try.prog 49 #[.pointer (some ⟨g, 0, none⟩), .int .i64 p] w (JustX (.int .u32 x) w) := by
  have c1 := h.c1
  have hx2 : sAdd first p = x := hx
  have Hadd := Lib.hid (radd_any first p w h.fbd)
  clear h hx
  go_enter Try.func49, Try.ntmps49
  go_wp2_with (go_at_call 55; refine Hadd.out.mono ?_; rintro e w' ⟨rfl, rfl⟩; rw [hx2])
  go_ret
  exact ⟨rfl, rfl⟩
theorem runa19_any (h : RefX w T g A c first W a s) : Calls Try.prog 19 #[.pointer (some ⟨g, 0, none⟩)] w (JustX (.int .u32 s.una) w) := by
  have c2 := h.c2
  have Hat := Lib.hid (rat19_any h (a : Int) s.una h.una.symm)
  clear h
  go_enter Try.func19, Try.ntmps19
  go_wp2_with (go_at_call 49; refine Hat.out.mono ?_; rintro e w' ⟨rfl, rfl⟩)
  go_ret
  exact ⟨rfl, rfl⟩
theorem rnxt19_any (h : RefX w T g A c first W a s) : Calls Try.prog 28 #[.pointer (some ⟨g, 0, none⟩)] w (JustX (.int .u32 (nxtX s)) w) := by
  have c3 := h.c3
  have Hat := Lib.hid (rat19_any h ((a + s.sent : Nat) : Int) (nxtX s) (by unfold nxtX; rw [h.una, numX_num]; congr 1; omega))
  obtain ⟨n, en⟩ : ∃ n, a + s.sent = n := ⟨_, rfl⟩
  rw [en] at c3 Hat
  clear h en
  go_enter Try.func28, Try.ntmps28
  go_wp2_with (go_at_call 49; refine Hat.out.mono ?_; rintro e w' ⟨rfl, rfl⟩)
  go_ret
  exact ⟨rfl, rfl⟩
theorem rend19_any (h : RefX w T g A c first W a s) : Calls Try.prog 29 #[.pointer (some ⟨g, 0, none⟩)] w (JustX (.int .u32 (endX s)) w) := by
  have c0 := h.c0
  have hb := h.blen
  have Hat := Lib.hid (rat19_any h (W.length : Int) (endX s) (by unfold endX; rw [h.una, numX_num]; congr 1; omega))
  obtain ⟨n, en⟩ : ∃ n, W.length = n := ⟨_, rfl⟩
  rw [en] at c0 Hat
  clear h en hb
  go_enter Try.func29, Try.ntmps29
  go_wp2_with (go_at_call 49; refine Hat.out.mono ?_; rintro e w' ⟨rfl, rfl⟩)
  go_ret
  exact ⟨rfl, rfl⟩
theorem rleft19_any (h : RefX w T g A c first W a s) : Calls Try.prog 31 #[.pointer (some ⟨g, 0, none⟩)] w (DrawX (.int .i64 (s.bs.length : Int)) w) := by
  have c0 := h.c0
  have c2 := h.c2
  have hb := h.blen
  have hbig := h.big
  obtain ⟨m, em⟩ : ∃ m, s.bs.length = m := ⟨_, rfl⟩
  obtain ⟨n, en⟩ : ∃ n, W.length = n := ⟨_, rfl⟩
  rw [en] at c0 hb hbig
  rw [em] at hb ⊢
  have hs : IntKind.i64.wrap ((n : Int) - (a : Int)) = (m : Int) := by rw [IntKind.wrap_i64]; omega
  clear h en em hb hbig
  go_enter Try.func31, Try.ntmps31
  go_wp2_with fail
  refine wp_region_held_drew (S := fun w' => w'.cell? ⟨g, 0, none⟩ = some (.slice A n c) ∧ w'.cell? ⟨g, 2, none⟩ = some (.int .i64 (a : Int))) (by kernel_rfl) (by exact ⟨c0, c2⟩) (fun hHeld => ?_)
  refine tk 0 ?_ rfl ?_ ?_
  rotate_left
  · intro w' hSw; (go_simp <;> (with_reducible rfl))
  try simp only [Act.put, putL]
  refine tk 1 ?_ rfl ?_ ?_
  rotate_left
  · intro w' hSw; (go_simp <;> (with_reducible rfl))
  try simp only [Act.put, putL]
  refine tk 2 ?_ rfl ?_ ?_
  rotate_left
  · intro w' hSw; (go_simp <;> (with_reducible rfl))
  try simp only [Act.put, putL]
  refine tk 3 ?_ rfl ?_ ?_
  rotate_left
  · intro w' hSw; (go_simp <;> (with_reducible rfl))
  try simp only [Act.put, putL]
  refine tk 4 ?_ rfl ?_ ?_
  rotate_left
  · intro w' hSw; (go_simp <;> (with_reducible rfl))
  try simp only [Act.put, putL]
  refine tk 5 ?_ rfl ?_ ?_
  rotate_left
  · intro w' hSw; (go_simp <;> (with_reducible rfl))
  try simp only [Act.put, putL]
  refine tk 6 ?_ rfl ?_ ?_
  rotate_left
  · intro w' hSw; (go_simp <;> (with_reducible rfl))
  try simp only [Act.put, putL]
  refine tk 7 ?_ rfl ?_ ?_
  rotate_left
  · intro w' hSw; (go_simp <;> (with_reducible rfl))
  try simp only [Act.put, putL]
  refine tk 8 ?_ rfl ?_ ?_
  rotate_left
  · intro w' hSw; (go_simp <;> (with_reducible rfl))
  try simp only [Act.put, putL]
  refine tk 9 ?_ rfl ?_ ?_
  rotate_left
  · intro w' hSw; (go_simp <;> (with_reducible rfl))
  try simp only [Act.put, putL]
  refine tk 10 ?_ rfl ?_ ?_
  rotate_left
  · intro w' hSw; (go_simp <;> (with_reducible rfl))
  try simp only [Act.put, putL]
  refine wpAnyH_done (by kernel_rfl) ?_ _
  go_wp2_with fail
  go_ret
  exact ⟨rfl, 1, rfl⟩
end
def RNewX (at_ win rto tries : Int) (w : World) (e : Ending) (w' : World) : Prop := ∃ g, e = .returned (.tuple #[.pointer (some ⟨g, 0, none⟩), .int .i64 0]) ∧ RefX w' (fun k => k = g) g none 0 at_ [] 0 (newX at_ win rto tries) ∧ Below w.heap.size w w' ∧ w.heap.size ≤ g
theorem rnew19_ok (at_ win rto tries : Int) (w : World) (ha : 0 ≤ at_ ∧ at_ < 4294967296) (hw : 0 ≤ win) (h : ¬ badX win rto tries) : Calls Try.prog 10 #[.int .u32 at_, .int .u32 win, .int .u64 rto, .int .i64 tries] w (RNewX at_ win rto tries w) := by
  have h2 := h
  unfold badX at h2
  have q1 : ¬ rto < 1 := by omega
  have q2 : ¬ (1073741824 : Int) < rto := by omega
  have q3 : ¬ tries < 1 := by omega
  have q4 : ¬ (10 : Int) < tries := by omega
  have q5 : ¬ (1073741824 : Int) < win := by omega
  obtain ⟨z, ez⟩ : ∃ z, w.heap.size = z := ⟨_, rfl⟩
  obtain ⟨w1, ew1⟩ : ∃ v, w.alloc (.cells (cellsX none 0 0 at_ 0 (newX at_ win rto tries)) 64) = v := ⟨_, rfl⟩
  have hbel : Below w.heap.size w w1 := by rw [← ew1]; exact (Below.refl _ _).alloc (Nat.le_refl _) _
  have hk : w1.heap[z]? = some (.cells (cellsX none 0 0 at_ 0 (newX at_ win rto tries)) 64 (0, 0)) := by rw [← ew1, ← ez]; exact heap_alloc_new w _
  have HR := Lib.hid (show RNewX at_ win rto tries w (.returned (.tuple #[.pointer (some ⟨z, 0, none⟩), .int .i64 0])) w1 from
    ⟨z, rfl, ⟨hk, Rd.nil _ _, ⟨Nat.le_refl _, by simp [maxLen]⟩, ha, Nat.le_refl _, rfl, by simp only [newX]; unfold numX; omega, by simp, new_okX ha hw h, rfl, fun b o e => (by cases e), fun k hk2 => by rw [hk2]; exact lt_of_block hk⟩, hbel, by omega⟩)
  have Ew1 := Lib.hid (show w.alloc (.cells #[.slice none 0 0, .int .u32 at_, .int .i64 0, .int .i64 0, .int .u32 win, .int .u64 rto, .int .i64 tries, .int .u64 rto, .int .u64 0, .int .i64 0] 64) = w1 from ew1)
  clear h h2 hbel hk ew1 ha hw
  go_enter Try.func10, Try.ntmps10
  go_wp2_with fail
  rw [Ew1.out]
  go_ret2
  exact HR.out
end Go.Proofs.Ytncbkgcblmohoaa
