/-
  A buffer of the program's in memory ('XMem'): none, number, may, inWindow, begin, and what tells alone.
-/
import Derived.Test.YtncbkgcblmohoaaRxFace
import Derived.Test.YtncbkgcblmohoaaRdSub
import Derived.Test.YtncbkgcblmohoaaSeqNum
import Derived.Test.YtncbkgcblmohoaaTk
import Derived.LaidEqlPtr
import Derived.Deep.LoopGhost
import Derived.Deep.CutRange
import Derived.BigRegion
import Derived.BigQuiet
namespace Go.Proofs.Ytncbkgcblmohoaa
set_option maxRecDepth 10000
open Go.RowKit
set_option linter.unusedSimpArgs false
set_option linter.unusedVariables false

/-- Just the answer; just the answer and draws. -/
def JustB (v : Value) (w : World) (e : Ending) (w' : World) : Prop := e = .returned v ∧ w = w'
def DrawB (v : Value) (w : World) (e : Ending) (w' : World) : Prop := e = .returned v ∧ ∃ n, w.drewN n = w'
def cellsB (g : Nat) (A : Option Addr) (n c : Nat) (s : XS) (wt ct al : Int) : Array Value :=
  #[.pointer (some ⟨g, 0, none⟩), .int .u32 s.una, .slice A n c, .int .i64 (s.sent : Int), .int .u32 s.win, .int .u64 s.rto, .int .i64 s.tries, .int .u64 wt, .int .i64 ct, .int .u64 al]
/-- The buffer in block g, its bytes in the slice A: what its alarm hangs on counts only while there are bytes. -/
structure XMem (w : World) (S : Nat → Prop) (g : Nat) (A : Option Addr) (c : Nat) (s : XS) (wt ct al : Int) : Prop where
  box : w.heap[g]? = some (.cells (cellsB g A s.bs.length c s wt ct al) 84 (0, 0))
  sl : SlV w 5 1 (.slice A s.bs.length c) s.bs.length (s.bs.map (Value.int .u8))
  own : ∀ b, (Value.slice A s.bs.length c).ownBlock = some b → S b
  ok : OkX s
  on_ : s.bs ≠ [] → wt = s.wait ∧ ct = s.count ∧ al = s.alarm
  sg : S g
  lt : ∀ k, S k → k < w.heap.size
/-- The face's predicate. -/
def XmAt : XA := fun w S g s => ∃ A c wt ct al, XMem w S g A c s wt ct al
theorem slv_rdc {w : World} {A : Option Addr} {n c : Nat} {l : List Int} (h : SlV w 5 1 (.slice A n c) n (l.map (Value.int .u8))) (hl : l.length = n) (hb : ∀ x ∈ l, 0 ≤ x ∧ x < 256) : RdC w A n c l := by
  subst hl
  rcases h with ⟨e, h0, _⟩ | ⟨g, o, c', e, C, hg, hC, hlen, hnc, hm, hc⟩
  · injection e with e1 e2 e3
    subst e1; subst e3
    have : l = [] := List.eq_nil_of_length_eq_zero h0
    subst this
    exact ⟨Rd.nil _ _, Nat.le_refl _, by simp [maxLen], fun _ => rfl⟩
  · injection e with e1 e2 e3
    subst e1; subst e3
    refine ⟨⟨rfl, hb, fun h0 => ⟨g, o, rfl, lt_of_block hg, fun i hi => ?_⟩⟩, hnc, hm, fun e => by cases e⟩
    have hi2 : i < (l.map (Value.int .u8)).length := by rw [List.length_map]; exact hi
    rw [blk_cell hg, hc i hi2, List.getElem?_map, List.getElem?_eq_getElem hi]
    simp [List.getD, List.getElem?_eq_getElem hi]
section
variable {w w' : World} {S T : Nat → Prop} {g c : Nat} {A : Option Addr} {s : XS} {wt ct al : Int}
theorem XMem.but (h : XMem w S g A c s wt ct al) (hb : But T w w') (hT : ∀ k, S k → ¬ T k) : XMem w' S g A c s wt ct al :=
  ⟨hb.blk h.box (hT _ h.sg), h.sl.but hb (fun b hb2 => hT _ (h.own b hb2)), h.own, h.ok, h.on_, h.sg, fun k hk => hb.lt (h.lt k hk)⟩
theorem XMem.on (h : XMem w S g A c s wt ct al) (hb : Below w.heap.size w w') : XMem w' S g A c s wt ct al := h.but (But.of (S := fun _ => False) hb) (fun _ _ h => h)
theorem XMem.drewN (h : XMem w S g A c s wt ct al) (n : Nat) : XMem (w.drewN n) S g A c s wt ct al := h.but (T := fun _ => False) ((But.refl _ _).drewN n) (fun _ _ h => h)
theorem XMem.more (h : XMem w S g A c s wt ct al) {S' : Nat → Prop} (hS : ∀ k, S k → S' k) (hl : ∀ k, S' k → k < w.heap.size) : XMem w S' g A c s wt ct al :=
  ⟨h.box, h.sl, fun b hb => hS _ (h.own b hb), h.ok, h.on_, hS _ h.sg, hl⟩
theorem XMem.c0 (h : XMem w S g A c s wt ct al) : w.cell? ⟨g, 0, none⟩ = some (.pointer (some ⟨g, 0, none⟩)) := by rw [blk_cell h.box]; rfl
theorem XMem.c1 (h : XMem w S g A c s wt ct al) : w.cell? ⟨g, 1, none⟩ = some (.int .u32 s.una) := by rw [blk_cell h.box]; rfl
theorem XMem.c2 (h : XMem w S g A c s wt ct al) : w.cell? ⟨g, 2, none⟩ = some (.slice A s.bs.length c) := by rw [blk_cell h.box]; rfl
theorem XMem.c3 (h : XMem w S g A c s wt ct al) : w.cell? ⟨g, 3, none⟩ = some (.int .i64 (s.sent : Int)) := by rw [blk_cell h.box]; rfl
theorem XMem.c4 (h : XMem w S g A c s wt ct al) : w.cell? ⟨g, 4, none⟩ = some (.int .u32 s.win) := by rw [blk_cell h.box]; rfl
theorem XMem.c5 (h : XMem w S g A c s wt ct al) : w.cell? ⟨g, 5, none⟩ = some (.int .u64 s.rto) := by rw [blk_cell h.box]; rfl
theorem XMem.c6 (h : XMem w S g A c s wt ct al) : w.cell? ⟨g, 6, none⟩ = some (.int .i64 s.tries) := by rw [blk_cell h.box]; rfl
theorem XMem.c7 (h : XMem w S g A c s wt ct al) : w.cell? ⟨g, 7, none⟩ = some (.int .u64 wt) := by rw [blk_cell h.box]; rfl
theorem XMem.c8 (h : XMem w S g A c s wt ct al) : w.cell? ⟨g, 8, none⟩ = some (.int .i64 ct) := by rw [blk_cell h.box]; rfl
theorem XMem.c9 (h : XMem w S g A c s wt ct al) : w.cell? ⟨g, 9, none⟩ = some (.int .u64 al) := by rw [blk_cell h.box]; rfl
theorem XMem.free (h : XMem w S g A c s wt ct al) (i : Nat) : w.frozen? ⟨g, i, none⟩ = false := blk_free h.box i
theorem XMem.rdc (h : XMem w S g A c s wt ct al) : RdC w A s.bs.length c s.bs := slv_rdc h.sl rfl h.ok.byte
/-- The bytes' block is another one than the buffer's. -/
theorem XMem.off (h : XMem w S g A c s wt ct al) : ∀ b, (Value.slice A s.bs.length c).ownBlock = some b → ¬ b = g := by
  rintro b hb rfl
  rcases h.sl with ⟨e, _⟩ | ⟨g2, o, c2, e, C, hC, _⟩
  · rw [e] at hb; cases hb
  · rw [e] at hb
    have e2 : g2 = b := by simpa [Value.ownBlock] using hb
    subst e2
    have hbx := h.box
    rw [hC] at hbx
    injection hbx with hbx
    injection hbx with _ hbx
    exact absurd hbx (by decide)
/-- A cell of its block is set. -/
theorem XMem.set_ {s' : XS} {wt' ct' al' : Int} (h : XMem w S g A c s wt ct al) (i : Nat) (v : Value) (hb : s'.bs = s.bs) (hc : (cellsB g A s.bs.length c s wt ct al).setIfInBounds i v = cellsB g A s.bs.length c s' wt' ct' al') (hok : OkX s') (hon : s.bs ≠ [] → wt' = s'.wait ∧ ct' = s'.count ∧ al' = s'.alarm) :
    XMem (w.setCell ⟨g, i, none⟩ v) S g A c s' wt' ct' al' ∧ But (fun k => k = g) w (w.setCell ⟨g, i, none⟩ v) := by
  have hB : But (fun k => k = g) w (w.setCell ⟨g, i, none⟩ v) := (But.refl (fun k => k = g) w).setCell (p := ⟨g, i, none⟩) rfl _
  refine ⟨⟨?_, ?_, ?_, hok, ?_, h.sg, fun k hk => hB.lt (h.lt k hk)⟩, hB⟩
  · have := heap_setCell_at h.box i v
    rw [hc] at this
    rw [hb]
    exact this
  · rw [hb]; exact h.sl.but hB (fun b hb2 => h.off b hb2)
  · rw [hb]; exact h.own
  · rw [hb]; exact hon
theorem but_m (h : XMem w S g A c s wt ct al) {w1 w2 : World} (hb : But (fun k => k = g) w1 w2) : But S w1 w2 := hb.mono (fun k _ hk => by rw [show k = g from hk]; exact h.sg)
/-- Without bytes, what the alarm hangs on is anything. -/
theorem XMem.loose (h : XMem w S g A c s wt ct al) {s' : XS} (hb : s.bs = []) (h1 : s'.una = s.una) (h2 : s'.bs = s.bs) (h3 : s'.sent = s.sent) (h4 : s'.win = s.win) (h5 : s'.rto = s.rto) (h6 : s'.tries = s.tries) (hok : OkX s') : XMem w S g A c s' wt ct al :=
  ⟨by unfold cellsB; rw [h1, h2, h3, h4, h5, h6]; exact h.box, by rw [h2]; exact h.sl, by rw [h2]; exact h.own, hok, fun e => absurd (h2.trans hb) e, h.sg, h.lt⟩
end
theorem info_bufX : (Try.prog.info? 84).isSome = true := by kernel_rfl
theorem xneq_same (a : Addr) (w : World) : (binOp .neq 27 (.pointer (some a)) (.pointer (some a))).run Try.prog w = .ok (.bool false) w := by
  obtain ⟨j, hj⟩ := Option.isSome_iff_exists.1 info_bufX
  have h : ∀ d : Nat, (Op.equalIn (d + 1) 27 (.pointer (some a)) (.pointer (some a))).run Try.prog w = .ok true w := fun d => by
    simp [Op.equalIn, run_underlying Try.underlying27, sizeOf, typeInfo, hj, run_sameAddr_same]
  simp only [binOp]
  simp [Op.equal, Op.maxDepth, h 9999]
theorem xneq_none (a : Addr) (w : World) : (binOp .neq 27 (.pointer none) (.pointer (some a))).run Try.prog w = .ok (.bool true) w := by
  have h : ∀ d : Nat, (Op.equalIn (d + 1) 27 (.pointer none) (.pointer (some a))).run Try.prog w = .ok false w := fun d => by
    simp [Op.equalIn, run_underlying Try.underlying27]
  simp only [binOp]
  simp [Op.equal, Op.maxDepth, h 9999]
theorem xnone_nil (w : World) : Calls Try.prog 40 #[.pointer none] w (JustB (.bool true) w) := by
  go_enter Try.func40, Try.ntmps40
  go_wp2_with fail
  go_ret
  exact ⟨rfl, rfl⟩
theorem xnone_no (g : Nat) (w : World) (h : w.cell? ⟨g, 0, none⟩ = some (.pointer (some ⟨g, 0, none⟩))) : Calls Try.prog 40 #[.pointer (some ⟨g, 0, none⟩)] w (JustB (.bool false) w) := by
  have hq := xneq_same ⟨g, 0, none⟩ w
  go_enter Try.func40, Try.ntmps40
  go_wp2_with fail
  go_ret
  exact ⟨rfl, rfl⟩
theorem xnone_zero (g : Nat) (w : World) (h : w.cell? ⟨g, 0, none⟩ = some (.pointer none)) : Calls Try.prog 40 #[.pointer (some ⟨g, 0, none⟩)] w (JustB (.bool true) w) := by
  have hq := xneq_none ⟨g, 0, none⟩ w
  go_enter Try.func40, Try.ntmps40
  go_wp2_with fail
  go_ret
  exact ⟨rfl, rfl⟩
theorem may19_any (mss : Int) (w : World) (b : Bool) (hb : badM mss = b) : Calls Try.prog 45 #[.int .i64 mss] w (JustB (.bool (!b)) w) := by
  unfold badM at hb
  by_cases h1 : 1 ≤ mss
  · by_cases h2 : mss ≤ 1500
    · have e : b = false := by rw [← hb]; exact decide_eq_false (by omega)
      subst e
      clear hb
      go_enter Try.func45, Try.ntmps45
      go_wp2_with fail
      go_ret
      exact ⟨rfl, rfl⟩
    · have e : b = true := by rw [← hb]; exact decide_eq_true (by omega)
      subst e
      clear hb
      go_enter Try.func45, Try.ntmps45
      go_wp2_with fail
      go_ret
      exact ⟨rfl, rfl⟩
  · have e : b = true := by rw [← hb]; exact decide_eq_true (by omega)
    subst e
    clear hb
    go_enter Try.func45, Try.ntmps45
    go_wp2_with fail
    go_ret
    exact ⟨rfl, rfl⟩
section
variable {w : World} {S : Nat → Prop} {g c : Nat} {A : Option Addr} {s : XS} {wt ct al : Int}
theorem xnumber_any (h : XMem w S g A c s wt ct al) (a x : Int) (hx : numX (s.una + a) = x) : Calls Try.prog 42 #[.pointer (some ⟨g, 0, none⟩), .int .i64 a] w (JustB (.int .u32 x) w) := by
  have k1 := h.c1
  have hx2 : sAdd s.una a = x := hx
  clear h hx
  go_enter Try.func42, Try.ntmps42
  go_wp2_with (go_at_call 36; refine (add_any _ _ _).mono ?_; rintro e w' ⟨rfl, rfl⟩; rw [hx2])
  go_ret
  exact ⟨rfl, rfl⟩
theorem inwin_any (h : XMem w S g A c s wt ct al) (m : Nat) (hm : limX s = m) : Calls Try.prog 46 #[.pointer (some ⟨g, 0, none⟩)] w (DrawB (.int .i64 (m : Int)) w) := by
  have c2 := h.c2
  have c4 := h.c4
  have hw := h.ok.win
  obtain ⟨n, en⟩ : ∃ n, s.bs.length = n := ⟨_, rfl⟩
  obtain ⟨wn, ewn⟩ : ∃ n, s.win = n := ⟨_, rfl⟩
  unfold limX at hm
  rw [en] at c2
  rw [ewn] at c4 hw
  rw [en, ewn] at hm
  have hmin : (if wn < (n : Int) then wn else (n : Int)) = (m : Int) := by split <;> omega
  have hwr : IntKind.i64.wrap wn = wn := by rw [IntKind.wrap_i64]; omega
  clear h en ewn hm hw
  go_enter Try.func46, Try.ntmps46
  go_wp2_with fail
  refine wp_region_held_drew (S := fun w' => w'.cell? ⟨g, 2, none⟩ = some (.slice A n c) ∧ w'.cell? ⟨g, 4, none⟩ = some (.int .u32 wn)) (by kernel_rfl) (by exact ⟨c2, c4⟩) (fun hHeld => ?_)
  refine tk 0 ?_ rfl ?_ ?_
  rotate_left
  · intro w' hSw; (go_simp <;> (with_reducible rfl))
  try simp only [Act.put, putL]
  refine tk 1 ?_ rfl ?_ ?_
  rotate_left
  · intro w' hSw; (go_simp <;> (with_reducible rfl))
  try simp only [Act.put, putL]
  refine tk 2 ?_ rfl ?_ ?_
  rotate_left
  · intro w' hSw; (go_simp <;> (with_reducible rfl))
  try simp only [Act.put, putL]
  refine tk 3 ?_ rfl ?_ ?_
  rotate_left
  · intro w' hSw; (go_simp <;> (with_reducible rfl))
  try simp only [Act.put, putL]
  refine tk 4 ?_ rfl ?_ ?_
  rotate_left
  · intro w' hSw; (go_simp <;> (with_reducible rfl))
  try simp only [Act.put, putL]
  refine tk 5 ?_ rfl ?_ ?_
  rotate_left
  · intro w' hSw; (go_simp <;> (with_reducible rfl))
  try simp only [Act.put, putL]
  refine tk 6 ?_ rfl ?_ ?_
  rotate_left
  · intro w' hSw; (go_simp <;> (with_reducible rfl))
  try simp only [Act.put, putL]
  refine tk 7 ?_ rfl ?_ ?_
  rotate_left
  · intro w' hSw; (go_simp <;> (with_reducible rfl))
  try simp only [Act.put, putL]
  refine tk 8 ?_ rfl ?_ ?_
  rotate_left
  · intro w' hSw; (go_simp <;> (with_reducible rfl))
  try simp only [Act.put, putL]
  refine tk 9 ?_ rfl ?_ ?_
  rotate_left
  · intro w' hSw; (go_simp <;> (with_reducible rfl))
  try simp only [Act.put, putL]
  refine tk 10 ?_ rfl ?_ ?_
  rotate_left
  · intro w' hSw; (go_simp <;> (with_reducible rfl))
  try simp only [Act.put, putL]
  refine tk 11 ?_ rfl ?_ ?_
  rotate_left
  · intro w' hSw; (go_simp <;> (with_reducible rfl))
  try simp only [Act.put, putL]
  refine wpAnyH_done (by kernel_rfl) ?_ _
  go_wp2_with fail
  go_ret
  exact ⟨rfl, 1, rfl⟩
theorem begin_any (h : XMem w S g A c s wt ct al) (now : Int) (hn : nowX now) :
    Calls Try.prog 41 #[.pointer (some ⟨g, 0, none⟩), .int .u64 now] w (fun e w' => e = .returned (.tuple #[]) ∧ XMem w' S g A c (anewX now s) s.rto 0 (now + s.rto) ∧ But (fun k => k = g) w w') := by
  have c5 := h.c5
  have f7 := h.free 7
  have c7 := h.c7
  have hr := h.ok.rto
  have hbox1 := heap_setCell_at h.box 7 (.int .u64 s.rto)
  have hbox2 := heap_setCell_at hbox1 8 (.int .i64 0)
  have hbox3 := heap_setCell_at hbox2 9 (.int .u64 (now + s.rto))
  obtain ⟨w1, ew1⟩ : ∃ v, w.setCell ⟨g, 7, none⟩ (.int .u64 s.rto) = v := ⟨_, rfl⟩
  rw [ew1] at hbox1 hbox2 hbox3
  obtain ⟨w2, ew2⟩ : ∃ v, w1.setCell ⟨g, 8, none⟩ (.int .i64 0) = v := ⟨_, rfl⟩
  rw [ew2] at hbox2 hbox3
  obtain ⟨w3, ew3⟩ : ∃ v, w2.setCell ⟨g, 9, none⟩ (.int .u64 (now + s.rto)) = v := ⟨_, rfl⟩
  rw [ew3] at hbox3
  have hB : But (fun k => k = g) w w3 := by
    rw [← ew3, ← ew2, ← ew1]
    exact (((But.refl (fun k => k = g) w).setCell (p := ⟨g, 7, none⟩) rfl _).setCell (p := ⟨g, 8, none⟩) rfl _).setCell (p := ⟨g, 9, none⟩) rfl _
  have HR := Lib.hid (show XMem w3 S g A c (anewX now s) s.rto 0 (now + s.rto) ∧ But (fun k => k = g) w w3 from
    ⟨⟨hbox3, h.sl.but hB (fun b hb => h.off b hb), h.own, anew_ok h.ok hn, fun _ => ⟨rfl, rfl, rfl⟩, h.sg, fun k hk => hB.lt (h.lt k hk)⟩, hB⟩)
  have d8 : w1.cell? ⟨g, 8, none⟩ = some (.int .i64 ct) := by rw [blk_cell hbox1]; rfl
  have f8 := blk_free hbox1 8
  have d7 : w2.cell? ⟨g, 7, none⟩ = some (.int .u64 s.rto) := by rw [blk_cell hbox2]; rfl
  have d9 : w2.cell? ⟨g, 9, none⟩ = some (.int .u64 al) := by rw [blk_cell hbox2]; rfl
  have f9 := blk_free hbox2 9
  have Ew1 := Lib.hid ew1
  have Ew2 := Lib.hid ew2
  have Ew3 := Lib.hid ew3
  have m1 : IntKind.u64.wrap (now + s.rto) = now + s.rto := by rw [IntKind.wrap_u64]; omega
  have m2 : (now + s.rto) % 18446744073709551616 = now + s.rto := by omega
  clear h hbox1 hbox2 hbox3 hB ew1 ew2 ew3 hr
  go_enter Try.func41, Try.ntmps41
  go_upto_region 1 with (fail)
  rw [Ew1.out]
  clear c5 c7 f7
  go_upto_region 2 with (fail)
  rw [Ew2.out]
  go_wp2_with fail
  rw [Ew3.out]
  go_end0
  exact ⟨rfl, HR.out⟩
theorem xuna_mem (h : XMem w S g A c s wt ct al) : Calls Try.prog 26 #[.pointer (some ⟨g, 0, none⟩)] w (JustB (.int .u32 s.una) w) := by
  have Hno := Lib.hid (xnone_no g w h.c0)
  have c1 := h.c1
  clear h
  go_enter Try.func26, Try.ntmps26
  go_wp2_with (go_at_call 40; refine Hno.out.mono ?_; rintro e w' ⟨rfl, rfl⟩)
  go_ret
  exact ⟨rfl, rfl⟩
theorem xwin_mem (h : XMem w S g A c s wt ct al) : Calls Try.prog 30 #[.pointer (some ⟨g, 0, none⟩)] w (JustB (.int .u32 s.win) w) := by
  have Hno := Lib.hid (xnone_no g w h.c0)
  have c4 := h.c4
  clear h
  go_enter Try.func30, Try.ntmps30
  go_wp2_with (go_at_call 40; refine Hno.out.mono ?_; rintro e w' ⟨rfl, rfl⟩)
  go_ret
  exact ⟨rfl, rfl⟩
theorem xnxt_mem (h : XMem w S g A c s wt ct al) : Calls Try.prog 27 #[.pointer (some ⟨g, 0, none⟩)] w (JustB (.int .u32 (nxtX s)) w) := by
  have Hno := Lib.hid (xnone_no g w h.c0)
  have c3 := h.c3
  have Hnu := Lib.hid (xnumber_any h (s.sent : Int) (nxtX s) rfl)
  clear h
  go_enter Try.func27, Try.ntmps27
  go_wp2_with (go_at_call 40; refine Hno.out.mono ?_; rintro e w' ⟨rfl, rfl⟩)
  refine Hnu.out.mono ?_
  rintro e w' ⟨rfl, rfl⟩
  go_wp2_with fail
  go_ret
  exact ⟨rfl, rfl⟩
theorem xend_mem (h : XMem w S g A c s wt ct al) : Calls Try.prog 13 #[.pointer (some ⟨g, 0, none⟩)] w (JustB (.int .u32 (endX s)) w) := by
  have Hno := Lib.hid (xnone_no g w h.c0)
  have c2 := h.c2
  have Hnu := Lib.hid (xnumber_any h (s.bs.length : Int) (endX s) rfl)
  obtain ⟨n, en⟩ : ∃ n, s.bs.length = n := ⟨_, rfl⟩
  rw [en] at c2 Hnu
  clear h en
  go_enter Try.func13, Try.ntmps13
  go_wp2_with (go_at_call 40; refine Hno.out.mono ?_; rintro e w' ⟨rfl, rfl⟩)
  refine Hnu.out.mono ?_
  rintro e w' ⟨rfl, rfl⟩
  go_wp2_with fail
  go_ret
  exact ⟨rfl, rfl⟩
theorem xalarm_mem (h : XMem w S g A c s wt ct al) (x : Int) (b : Bool) (hx : alarmX s = x) (hb : setX s = b) : Calls Try.prog 25 #[.pointer (some ⟨g, 0, none⟩)] w (JustB (.tuple #[.int .u64 x, .bool b]) w) := by
  have Hno := Lib.hid (xnone_no g w h.c0)
  have c2 := h.c2
  have c9 := h.c9
  obtain ⟨n, en⟩ : ∃ n, s.bs.length = n := ⟨_, rfl⟩
  rw [en] at c2
  by_cases h0 : n = 0
  · subst h0
    have hs0 : s.bs = [] := List.eq_nil_of_length_eq_zero en
    have e1 : b = false := by rw [← hb]; unfold setX; rw [hs0]; rfl
    have e2 : x = 0 := by rw [← hx]; unfold alarmX; rw [hb, e1]; rfl
    subst e1; subst e2
    clear h hs0 en hx hb
    go_enter Try.func25, Try.ntmps25
    go_wp2_with (go_at_call 40; refine Hno.out.mono ?_; rintro e w' ⟨rfl, rfl⟩)
    go_ret2
    exact ⟨rfl, rfl⟩
  · have hs0 : s.bs ≠ [] := fun e => h0 (by rw [← en, e]; rfl)
    have e1 : b = true := by
      rw [← hb]; unfold setX
      cases hbs : s.bs with
      | nil => exact absurd hbs hs0
      | cons y l => rfl
    have e2 : x = al := by rw [← hx]; unfold alarmX; rw [hb, e1]; exact (h.on_ hs0).2.2.symm
    subst e1; subst e2
    have hne : ((n : Int) == 0) = false := by rw [beq_eq_false_iff_ne]; omega
    have hne2 : (n == 0) = false := by rw [beq_eq_false_iff_ne]; omega
    clear h hs0 en hx hb h0
    go_enter Try.func25, Try.ntmps25
    go_wp2_with (go_at_call 40; refine Hno.out.mono ?_; rintro e w' ⟨rfl, rfl⟩)
    go_ret2
    exact ⟨rfl, rfl⟩
end
end Go.Proofs.Ytncbkgcblmohoaa
