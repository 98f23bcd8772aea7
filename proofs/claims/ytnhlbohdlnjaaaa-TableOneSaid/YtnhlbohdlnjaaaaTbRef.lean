/-
  The document's own table (culvertref13): New, at, Inner, Outer, without, Flow.
-/
import Derived.Test.YtnhlbohdlnjaaaaTbTouch
import Derived.Test.YtnhlbohdlnjaaaaTbNew
namespace Go.Proofs.Ytnhlbohdlnjaaaa
set_option maxRecDepth 10000
open Go.RowKit
set_option linter.unusedSimpArgs false
set_option linter.unusedVariables false

theorem tu_neq (t u : Tu) (w : World) : (binOp .neq 37 (.agg #[.int .u8 t.pr, .int .u32 t.sr, .int .u32 t.ds, .int .u16 t.sp, .int .u16 t.dp]) (.agg #[.int .u8 u.pr, .int .u32 u.sr, .int .u32 u.ds, .int .u16 u.sp, .int .u16 u.dp])).run Try.prog w = .ok (.bool (!tuSame t u)) w := by
  have h := equal_tu t u w
  unfold tv at h
  simp only [binOp]
  simp [h, Result.andThen]
/-- The document's table in memory. -/
def RefT (w : World) (S : Nat → Prop) (g : Nat) (M last : Int) (L : TL) : Prop :=
  ∃ v, w.heap[g]? = some (.cells #[v, .int .i64 M, .int .u64 last] 59 (0, 0)) ∧ SlV w 54 12 v L.length (flatF L) ∧ S g ∧ (∀ b, v.ownBlock = some b → S b) ∧ ∀ k, S k → k < w.heap.size
theorem RefT.but {w w' : World} {S T : Nat → Prop} {g : Nat} {M last : Int} {L : TL} (h : RefT w S g M last L) (hb : But T w w') (hT : ∀ k, S k → ¬ T k) : RefT w' S g M last L := by
  obtain ⟨v, h1, h2, h3, h4, h5⟩ := h
  exact ⟨v, hb.blk h1 (hT _ h3), h2.but hb (fun b hb' => hT _ (h4 b hb')), h3, h4, fun k hk => hb.lt (h5 k hk)⟩
theorem RefT.below {w w' : World} {S : Nat → Prop} {g : Nat} {M last : Int} {L : TL} (h : RefT w S g M last L) (hb : Below w.heap.size w w') : RefT w' S g M last L :=
  h.but (But.of (S := fun _ => False) hb) (fun _ _ h => h)
def RDoes (S : Nat → Prop) (g : Nat) (M last : Int) (L : TL) (v : Value) (w : World) (e : Ending) (w' : World) : Prop := e = .returned v ∧ ∃ S', RefT w' S' g M last L ∧ But S w w' ∧ ∀ k, S' k → S k ∨ w.heap.size ≤ k
theorem RefT.tells {S : Nat → Prop} {g : Nat} {M last : Int} {L : TL} {v : Value} {w w' : World} {e : Ending} (h : RefT w S g M last L) (ht : TellsT v w e w') : RDoes S g M last L v w e w' :=
  ⟨ht.1, S, h.below ht.2, But.of ht.2, fun k hk => .inl hk⟩
theorem rnew_bad (M : Int) (w : World) (h : M < 1 ∨ 1024 < M) : Calls Try.prog 9 #[.int .i64 M] w (JustIs (.tuple #[.pointer none, .int .i64 1]) w) := by
  by_cases h1 : M < 1
  · go_enter Try.func9, Try.ntmps9
    go_wp2_with fail
    go_ret2
    exact ⟨rfl, rfl⟩
  · have h2 : 1024 < M := by omega
    go_enter Try.func9, Try.ntmps9
    go_wp2_with fail
    go_ret2
    exact ⟨rfl, rfl⟩
def RNews (M : Int) (w : World) (e : Ending) (w' : World) : Prop := ∃ g S, e = .returned (.tuple #[.pointer (some ⟨g, 0, none⟩), .int .i64 0]) ∧ RefT w' S g M 0 [] ∧ Below w.heap.size w w' ∧ ∀ k, S k → w.heap.size ≤ k
theorem rnew_any (M : Int) (w : World) (h : 1 ≤ M ∧ M ≤ 1024) : Calls Try.prog 9 #[.int .i64 M] w (RNews M w) := by
  have hl1 : ¬ M < 1 := by omega
  have hl2 : ¬ 1024 < M := by omega
  obtain ⟨z, ez⟩ : ∃ z, w.heap.size = z := ⟨_, rfl⟩
  obtain ⟨w1, ew1⟩ : ∃ v, w.alloc (.cells #[.slice none 0 0, .int .i64 M, .int .u64 0] 59) = v := ⟨_, rfl⟩
  have hk : w1.heap[z]? = some (.cells #[.slice none 0 0, .int .i64 M, .int .u64 0] 59 (0, 0)) := by rw [← ew1, ← ez]; exact heap_alloc_new w _
  have HN := Lib.hid (show RNews M w (.returned (.tuple #[.pointer (some ⟨z, 0, none⟩), .int .i64 0])) w1 from
    ⟨z, fun k => k = z, rfl, ⟨_, hk, .inl ⟨rfl, rfl, rfl⟩, rfl, fun b hb => (by cases hb), fun k hk' => by rw [hk']; exact lt_of_block hk⟩, by rw [← ew1]; exact (Below.refl _ _).alloc (Nat.le_refl _) _, fun k hk => by omega⟩)
  have Ew := Lib.hid ew1
  have Ez := Lib.hid ez
  clear hk ew1 ez h
  go_enter Try.func9, Try.ntmps9
  go_wp2_with fail
  rw [Ew.out, Ez.out]
  go_ret2
  exact HN.out
def rxI (r : Option Nat) : Int := match r with | none => -1 | some k => (k : Int)
set_option maxHeartbeats 1000000 in
theorem rat_any (S : Nat → Prop) (g : Nat) (M last : Int) (L : TL) (id x : Int) (w : World) (h : RefT w S g M last L) (hn : L.length ≤ 1000000) (hx : rxI (atF id L) = x) :
    Calls Try.prog 40 #[.pointer (some ⟨g, 0, none⟩), .int .u64 id] w (JustIs (.int .i64 x) w) := by
  obtain ⟨v, hg, hs, -, -, -⟩ := h
  obtain ⟨n, en⟩ : ∃ n, L.length = n := ⟨_, rfl⟩
  rw [en] at hs hn
  obtain ⟨A, c, rfl⟩ := hs.form
  have k0 := blk_cell hg 0
  simp at k0
  have Hn := Lib.hid en
  have Hs := Lib.hid hs
  have Hx := Lib.hid hx
  clear hs hg en hx
  go_enter Try.func40, Try.ntmps40
  go_wp2_with fail
  go_loopg [5] n (fun gk i wr => ∃ j : Nat, Hid (gk + j = n) ∧ j ≤ n ∧ i = .int .i64 (j : Int) ∧ Hid (∀ i, i < j → decide ((L.getD i f0).id = id) = false) ∧ w = wr)
  case atStart => exact ⟨0, rfl, Nat.zero_le _, rfl, Lib.hid (fun i hi => by omega), rfl⟩
  case round =>
    obtain ⟨j, hgk, hj, rfl, hno, rfl⟩ := hrel
    by_cases hjn : j < n
    · obtain ⟨gu, o, rfl, hidx, hfl, hlt⟩ := fl_index_r Hs.out Hn.out hjn
      obtain ⟨f, ef⟩ : ∃ f, L.getD j f0 = f := ⟨_, rfl⟩
      obtain ⟨p, ep⟩ : ∃ p, o + j * 12 = p := ⟨_, rfl⟩
      rw [ep] at hidx hfl
      rw [ef] at hfl
      have c0 := hfl.c0
      have hjd2 : (j : Int) < (n : Int) := by omega
      have Hef := Lib.hid ef
      clear hfl ef ep
      by_cases hid : f.id = id
      · have hb : (f.id == id) = true := by simpa using hid
        have Hr := Lib.hid (show x = (j : Int) by
          have h := (find_at (p := fun f => decide (f.id = id)) (L := L) (k := j) (by rw [Hn.out]; exact hjn) (by rw [Hef.out]; simpa using hid) hno.out).1
          have h2 := Hx.out
          rw [show atF id L = some j from h] at h2
          exact h2.symm)
        clear hid
        go_wp2_with fail
        go_ret
        exact ⟨by rw [Hr.out]; rfl, rfl⟩
      · have hb : (f.id == id) = false := by simpa using hid
        have Hno := Lib.hid (show ∀ i, i < j + 1 → decide ((L.getD i f0).id = id) = false by
          intro i hi
          by_cases e : i = j
          · subst e; rw [Hef.out]; simpa using hid
          · exact hno.out i (by omega))
        clear hid
        go_wp2_with fail
        go_roundg (gk - 1)
        case measure => have := hgk.out; omega
        case rel => exact ⟨j + 1, by have := hgk.out; show gk - 1 + (j + 1) = _; omega, by omega, by go_num, Hno, rfl⟩
    · obtain rfl : n = j := by omega
      have Hr := Lib.hid (show x = -1 by
        have h := (find_non (p := fun f => decide (f.id = id)) (L := L) (by rw [Hn.out]; exact hno.out)).1
        have h2 := Hx.out
        rw [show atF id L = none from h] at h2
        exact h2.symm)
      go_wp2_with fail
      go_ret
      exact ⟨by rw [Hr.out]; rfl, rfl⟩
set_option maxHeartbeats 1000000 in
theorem rinner_any (S : Nat → Prop) (g : Nat) (M last : Int) (L : TL) (x : Tu) (id : Int) (is_ : Bool) (w : World) (h : RefT w S g M last L) (hn : L.length ≤ 1000000) (h1 : idOf (innF x L) = id) (h2 : isOf (innF x L) = is_) :
    Calls Try.prog 24 #[.pointer (some ⟨g, 0, none⟩), .agg #[.int .u8 x.pr, .int .u32 x.sr, .int .u32 x.ds, .int .u16 x.sp, .int .u16 x.dp]] w (TellsT (.tuple #[.int .u64 id, .bool is_]) w) := by
  obtain ⟨w0, ew⟩ : ∃ w0, w.alloc (.cells #[.int .u8 x.pr, .int .u32 x.sr, .int .u32 x.ds, .int .u16 x.sp, .int .u16 x.dp] 37) = w0 := ⟨_, rfl⟩
  obtain ⟨z, hz⟩ : ∃ z, w.heap.size = z := ⟨_, rfl⟩
  have hb0 : Below w.heap.size w w0 := by rw [← ew]; exact (Below.refl _ _).alloc (Nat.le_refl _) _
  have hk0 : w0.heap[z]? = some (.cells #[.int .u8 x.pr, .int .u32 x.sr, .int .u32 x.ds, .int .u16 x.sp, .int .u16 x.dp] 37 (0, 0)) := by rw [← ew, ← hz]; exact heap_alloc_new w _
  obtain ⟨v, hg, hs, -, -, -⟩ := h.below hb0
  obtain ⟨n, en⟩ : ∃ n, L.length = n := ⟨_, rfl⟩
  rw [en] at hs hn
  obtain ⟨A, c, rfl⟩ := hs.form
  have k0 := blk_cell hg 0
  simp at k0
  obtain ⟨a0, a1, a2, a3, a4⟩ := cells5 hk0
  have Hn := Lib.hid en
  have Hs := Lib.hid hs
  have Hx := Lib.hid h1
  have Hx2 := Lib.hid h2
  have Hb0 := Lib.hid hb0
  have Ew := Lib.hid ew
  have Hz := Lib.hid hz
  clear hs hg en h1 h2 h hb0 hk0 ew hz
  go_enter Try.func24, Try.ntmps24
  go_upto_region 1 with (fail)
  rw [Ew.out]
  try rw [Hz.out]
  go_wp2_with fail
  go_loopg [6] n (fun gk i wr => ∃ j k : Nat, Hid (gk + j = n) ∧ j ≤ n ∧ i = .int .i64 (j : Int) ∧ Hid (∀ i, i < j → decide ((L.getD i f0).i = x) = false) ∧ wr = w0.drewN k)
  case atStart => exact ⟨0, 0, rfl, Nat.zero_le _, rfl, Lib.hid (fun i hi => by omega), rfl⟩
  case round =>
    obtain ⟨j, k, hgk, hj, rfl, hno, rfl⟩ := hrel
    by_cases hjn : j < n
    · obtain ⟨gu, o, rfl, hidx, hfl, hlt⟩ := fl_index_r Hs.out Hn.out hjn
      obtain ⟨f, ef⟩ : ∃ f, L.getD j f0 = f := ⟨_, rfl⟩
      obtain ⟨p, ep⟩ : ∃ p, o + j * 12 = p := ⟨_, rfl⟩
      rw [ep] at hidx hfl
      rw [ef] at hfl
      have c0 := hfl.c0
      have c1 := hfl.c1
      have c2 := hfl.c2
      have c3 := hfl.c3
      have c4 := hfl.c4
      have c5 := hfl.c5
      have hjd2 : (j : Int) < (n : Int) := by omega
      have Hef := Lib.hid ef
      have heq := fun W => tu_eql f.i x W
      clear hfl ef ep
      by_cases hid : f.i = x
      · have hb : tuSame f.i x = true := (tuSame_iff _ _).2 hid
        have Hr := Lib.hid (show id = f.id ∧ is_ = true by
          have h := (find_at (p := fun f => decide (f.i = x)) (L := L) (k := j) (by rw [Hn.out]; exact hjn) (by rw [Hef.out]; simpa using hid) hno.out).2
          have h2 := Hx.out
          have h3 := Hx2.out
          rw [show innF x L = some (L.getD j f0) from h] at h2 h3
          exact ⟨by rw [← h2, Hef.out]; rfl, h3.symm⟩)
        rw [hb] at heq
        clear hid hb
        go_wp2_with fail
        go_quiet (fail)
        go_wp2_with fail
        go_ret2
        exact ⟨by rw [Hr.out.1, Hr.out.2]; rfl, Hb0.out.trans (((But.refl (fun _ => False) w0).drewN (k + nq)).below (fun _ h => h.elim) Hb0.out.size)⟩
      · have hb : tuSame f.i x = false := by
          cases hq : tuSame f.i x
          · rfl
          · exact absurd ((tuSame_iff _ _).1 hq) hid
        have Hno := Lib.hid (show ∀ i, i < j + 1 → decide ((L.getD i f0).i = x) = false by
          intro i hi
          by_cases e : i = j
          · subst e; rw [Hef.out]; simpa using hid
          · exact hno.out i (by omega))
        rw [hb] at heq
        clear hid hb
        go_wp2_with fail
        go_quiet (fail)
        go_wp2_with fail
        go_roundg (gk - 1)
        case measure => have := hgk.out; omega
        case rel => exact ⟨j + 1, k + nq, by have := hgk.out; show gk - 1 + (j + 1) = _; omega, by omega, by go_num, Hno, by first | rfl | rw [World.drewN_drewN]⟩
    · obtain rfl : n = j := by omega
      have Hr := Lib.hid (show id = 0 ∧ is_ = false by
        have h := (find_non (p := fun f => decide (f.i = x)) (L := L) (by rw [Hn.out]; exact hno.out)).2
        have h2 := Hx.out
        have h3 := Hx2.out
        rw [show innF x L = none from h] at h2 h3
        exact ⟨h2.symm, h3.symm⟩)
      go_wp2_with fail
      go_ret2
      exact ⟨by rw [Hr.out.1, Hr.out.2]; rfl, Hb0.out.trans (((But.refl (fun _ => False) w0).drewN k).below (fun _ h => h.elim) Hb0.out.size)⟩
set_option maxHeartbeats 1000000 in
theorem router_zero (S : Nat → Prop) (g : Nat) (M last : Int) (L : TL) (x : Tu) (w : World) (h : RefT w S g M last L) (hn : L.length ≤ 1000000) (hx : x = zT) :
    Calls Try.prog 26 #[.pointer (some ⟨g, 0, none⟩), .agg #[.int .u8 x.pr, .int .u32 x.sr, .int .u32 x.ds, .int .u16 x.sp, .int .u16 x.dp]] w (TellsT (.tuple #[.int .u64 0, .bool false]) w) := by
  obtain ⟨w0, ew⟩ : ∃ w0, (w.alloc (.cells #[.int .u8 x.pr, .int .u32 x.sr, .int .u32 x.ds, .int .u16 x.sp, .int .u16 x.dp] 37)).alloc (.cells #[.int .u8 0, .int .u32 0, .int .u32 0, .int .u16 0, .int .u16 0] 37) = w0 := ⟨_, rfl⟩
  obtain ⟨z, hz⟩ : ∃ z, w.heap.size = z := ⟨_, rfl⟩
  have hb0 : Below w.heap.size w w0 := by rw [← ew]; exact ((Below.refl _ _).alloc (Nat.le_refl _) _).alloc (by simp) _
  have hk0 : w0.heap[z]? = some (.cells #[.int .u8 x.pr, .int .u32 x.sr, .int .u32 x.ds, .int .u16 x.sp, .int .u16 x.dp] 37 (0, 0)) := by rw [← ew, Below.heap_alloc _ _ _ (by simp [hz]), ← hz]; exact heap_alloc_new w _
  have hk1 : w0.heap[z + 1]? = some (.cells #[.int .u8 0, .int .u32 0, .int .u32 0, .int .u16 0, .int .u16 0] 37 (0, 0)) := by
    rw [← ew, ← hz]; simpa using heap_alloc_new (w.alloc (.cells #[.int .u8 x.pr, .int .u32 x.sr, .int .u32 x.ds, .int .u16 x.sp, .int .u16 x.dp] 37)) (.cells #[.int .u8 0, .int .u32 0, .int .u32 0, .int .u16 0, .int .u16 0] 37)
  obtain ⟨v, hg, hs, -, -, -⟩ := h.below hb0
  obtain ⟨n, en⟩ : ∃ n, L.length = n := ⟨_, rfl⟩
  rw [en] at hs hn
  obtain ⟨A, c, rfl⟩ := hs.form
  have k0 := blk_cell hg 0
  simp at k0
  obtain ⟨a0, a1, a2, a3, a4⟩ := cells5 hk0
  obtain ⟨b0, b1, b2, b3, b4⟩ := cells5 hk1
  have Hn := Lib.hid en
  have Hs := Lib.hid hs
  have Hb0 := Lib.hid hb0
  have Ew := Lib.hid ew
  have Hz := Lib.hid hz
  clear hs hg en h hb0 hk0 hk1 ew hz
  have hne := fun W => tu_neq x zT W
  rw [show tuSame x zT = true from (tuSame_iff _ _).2 hx] at hne
  unfold zT at hne
  simp only [Bool.not_true] at hne
  clear hx
  go_enter Try.func26, Try.ntmps26
  go_upto_region 2 with (fail)
  rw [Ew.out]
  try rw [Hz.out]
  go_wp2_with fail
  go_loopg [7] n (fun gk i wr => ∃ j k : Nat, Hid (gk + j = n) ∧ j ≤ n ∧ i = .int .i64 (j : Int) ∧ wr = w0.drewN k)
  case atStart => exact ⟨0, 0, rfl, Nat.zero_le _, rfl, rfl⟩
  case round =>
    obtain ⟨j, k, hgk, hj, rfl, rfl⟩ := hrel
    by_cases hjn : j < n
    · have hjd2 : (j : Int) < (n : Int) := by omega
      go_wp2_with fail
      go_quiet (fail)
      go_wp2_with fail
      go_roundg (gk - 1)
      case measure => have := hgk.out; omega
      case rel => exact ⟨j + 1, k + nq, by have := hgk.out; show gk - 1 + (j + 1) = _; omega, by omega, by go_num, by first | rfl | rw [World.drewN_drewN]⟩
    · obtain rfl : n = j := by omega
      go_wp2_with fail
      go_ret2
      exact ⟨rfl, Hb0.out.trans (((But.refl (fun _ => False) w0).drewN k).below (fun _ h => h.elim) Hb0.out.size)⟩
set_option maxHeartbeats 1000000 in
theorem router_some (S : Nat → Prop) (g : Nat) (M last : Int) (L : TL) (x : Tu) (id : Int) (is_ : Bool) (w : World) (h : RefT w S g M last L) (hn : L.length ≤ 1000000) (hx0 : x ≠ zT) (h1 : idOf (outF x L) = id) (h2 : isOf (outF x L) = is_) :
    Calls Try.prog 26 #[.pointer (some ⟨g, 0, none⟩), .agg #[.int .u8 x.pr, .int .u32 x.sr, .int .u32 x.ds, .int .u16 x.sp, .int .u16 x.dp]] w (TellsT (.tuple #[.int .u64 id, .bool is_]) w) := by
  obtain ⟨w0, ew⟩ : ∃ w0, (w.alloc (.cells #[.int .u8 x.pr, .int .u32 x.sr, .int .u32 x.ds, .int .u16 x.sp, .int .u16 x.dp] 37)).alloc (.cells #[.int .u8 0, .int .u32 0, .int .u32 0, .int .u16 0, .int .u16 0] 37) = w0 := ⟨_, rfl⟩
  obtain ⟨z, hz⟩ : ∃ z, w.heap.size = z := ⟨_, rfl⟩
  have hb0 : Below w.heap.size w w0 := by rw [← ew]; exact ((Below.refl _ _).alloc (Nat.le_refl _) _).alloc (by simp) _
  have hk0 : w0.heap[z]? = some (.cells #[.int .u8 x.pr, .int .u32 x.sr, .int .u32 x.ds, .int .u16 x.sp, .int .u16 x.dp] 37 (0, 0)) := by rw [← ew, Below.heap_alloc _ _ _ (by simp [hz]), ← hz]; exact heap_alloc_new w _
  have hk1 : w0.heap[z + 1]? = some (.cells #[.int .u8 0, .int .u32 0, .int .u32 0, .int .u16 0, .int .u16 0] 37 (0, 0)) := by
    rw [← ew, ← hz]; simpa using heap_alloc_new (w.alloc (.cells #[.int .u8 x.pr, .int .u32 x.sr, .int .u32 x.ds, .int .u16 x.sp, .int .u16 x.dp] 37)) (.cells #[.int .u8 0, .int .u32 0, .int .u32 0, .int .u16 0, .int .u16 0] 37)
  obtain ⟨v, hg, hs, -, -, -⟩ := h.below hb0
  obtain ⟨n, en⟩ : ∃ n, L.length = n := ⟨_, rfl⟩
  rw [en] at hs hn
  obtain ⟨A, c, rfl⟩ := hs.form
  have k0 := blk_cell hg 0
  simp at k0
  obtain ⟨a0, a1, a2, a3, a4⟩ := cells5 hk0
  obtain ⟨b0, b1, b2, b3, b4⟩ := cells5 hk1
  have Hn := Lib.hid en
  have Hs := Lib.hid hs
  have Hb0 := Lib.hid hb0
  have Ew := Lib.hid ew
  have Hz := Lib.hid hz
  clear hs hg en h hb0 hk0 hk1 ew hz
  have hne := fun W => tu_neq x zT W
  have hs0 : tuSame x zT = false := by
    cases hq : tuSame x zT
    · rfl
    · exact absurd ((tuSame_iff _ _).1 hq) hx0
  rw [hs0] at hne
  unfold zT at hne
  simp only [Bool.not_false] at hne
  unfold outF at h1 h2
  rw [if_neg hx0] at h1 h2
  have Hx := Lib.hid h1
  have Hx2 := Lib.hid h2
  clear hx0 h1 h2 hs0
  go_enter Try.func26, Try.ntmps26
  go_upto_region 2 with (fail)
  rw [Ew.out]
  try rw [Hz.out]
  go_wp2_with fail
  go_loopg [7] n (fun gk i wr => ∃ j k : Nat, Hid (gk + j = n) ∧ j ≤ n ∧ i = .int .i64 (j : Int) ∧ Hid (∀ i, i < j → decide ((L.getD i f0).o = x) = false) ∧ wr = w0.drewN k)
  case atStart => exact ⟨0, 0, rfl, Nat.zero_le _, rfl, Lib.hid (fun i hi => by omega), rfl⟩
  case round =>
    obtain ⟨j, k, hgk, hj, rfl, hno, rfl⟩ := hrel
    by_cases hjn : j < n
    · obtain ⟨gu, o, rfl, hidx, hfl, hlt⟩ := fl_index_r Hs.out Hn.out hjn
      obtain ⟨f, ef⟩ : ∃ f, L.getD j f0 = f := ⟨_, rfl⟩
      obtain ⟨p, ep⟩ : ∃ p, o + j * 12 = p := ⟨_, rfl⟩
      rw [ep] at hidx hfl
      rw [ef] at hfl
      have c0 := hfl.c0
      have c6 := hfl.c6
      have c7 := hfl.c7
      have c8 := hfl.c8
      have c9 := hfl.c9
      have ca := hfl.ca
      have hjd2 : (j : Int) < (n : Int) := by omega
      have Hef := Lib.hid ef
      have heq := fun W => tu_eql f.o x W
      clear hfl ef ep
      by_cases hid : f.o = x
      · have hb : tuSame f.o x = true := (tuSame_iff _ _).2 hid
        have Hr := Lib.hid (show id = f.id ∧ is_ = true by
          have h := (find_at (p := fun f => decide (f.o = x)) (L := L) (k := j) (by rw [Hn.out]; exact hjn) (by rw [Hef.out]; simpa using hid) hno.out).2
          have h2 := Hx.out
          have h3 := Hx2.out
          rw [h] at h2 h3
          exact ⟨by rw [← h2, Hef.out]; rfl, h3.symm⟩)
        rw [hb] at heq
        clear hid hb
        go_wp2_with fail
        go_quiet (fail)
        go_wp2_with fail
        go_ret2
        exact ⟨by rw [Hr.out.1, Hr.out.2]; rfl, Hb0.out.trans (((But.refl (fun _ => False) w0).drewN (k + nq)).below (fun _ h => h.elim) Hb0.out.size)⟩
      · have hb : tuSame f.o x = false := by
          cases hq : tuSame f.o x
          · rfl
          · exact absurd ((tuSame_iff _ _).1 hq) hid
        have Hno := Lib.hid (show ∀ i, i < j + 1 → decide ((L.getD i f0).o = x) = false by
          intro i hi
          by_cases e : i = j
          · subst e; rw [Hef.out]; simpa using hid
          · exact hno.out i (by omega))
        rw [hb] at heq
        clear hid hb
        go_wp2_with fail
        go_quiet (fail)
        go_wp2_with fail
        go_roundg (gk - 1)
        case measure => have := hgk.out; omega
        case rel => exact ⟨j + 1, k + nq, by have := hgk.out; show gk - 1 + (j + 1) = _; omega, by omega, by go_num, Hno, by first | rfl | rw [World.drewN_drewN]⟩
    · obtain rfl : n = j := by omega
      have Hr := Lib.hid (show id = 0 ∧ is_ = false by
        have h := (find_non (p := fun f => decide (f.o = x)) (L := L) (by rw [Hn.out]; exact hno.out)).2
        have h2 := Hx.out
        have h3 := Hx2.out
        rw [h] at h2 h3
        exact ⟨h2.symm, h3.symm⟩)
      go_wp2_with fail
      go_ret2
      exact ⟨by rw [Hr.out.1, Hr.out.2]; rfl, Hb0.out.trans (((But.refl (fun _ => False) w0).drewN k).below (fun _ h => h.elim) Hb0.out.size)⟩
theorem router_any (S : Nat → Prop) (g : Nat) (M last : Int) (L : TL) (x : Tu) (id : Int) (is_ : Bool) (w : World) (h : RefT w S g M last L) (hn : L.length ≤ 1000000) (h1 : idOf (outF x L) = id) (h2 : isOf (outF x L) = is_) :
    Calls Try.prog 26 #[.pointer (some ⟨g, 0, none⟩), .agg #[.int .u8 x.pr, .int .u32 x.sr, .int .u32 x.ds, .int .u16 x.sp, .int .u16 x.dp]] w (TellsT (.tuple #[.int .u64 id, .bool is_]) w) := by
  by_cases hx : x = zT
  · have e : outF x L = none := by unfold outF; rw [if_pos hx]
    rw [e] at h1 h2
    subst h1; subst h2
    exact router_zero S g M last L x w h hn hx
  · exact router_some S g M last L x id is_ w h hn hx h1 h2
end Go.Proofs.Ytnhlbohdlnjaaaa
