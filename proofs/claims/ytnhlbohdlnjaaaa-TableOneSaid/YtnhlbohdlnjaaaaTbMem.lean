/-
  A table of the program's in memory ('TMem'), and the contracts of none, zero, find, place.
-/
import Derived.Test.YtnhlbohdlnjaaaaFlRow
import Derived.Test.YtnhlbohdlnjaaaaBi
import Derived.LaidEqlPtr
import Derived.Deep.LoopGhost
import Derived.Deep.CutRange
import Derived.BigRegion
import Derived.BigQuiet
import Derived.OwnWalk
namespace Go.Proofs.Ytnhlbohdlnjaaaa
set_option maxRecDepth 10000
open Go.RowKit
set_option linter.unusedSimpArgs false
set_option linter.unusedVariables false

def QuietT (v : Value) (w : World) (e : Ending) (w' : World) : Prop := e = .returned v ∧ ∃ m, w' = w.drewN m
theorem SlV.blkT {w : World} {T : TypeId} {sz : Nat} {v : Value} {n : Nat} {vs : List Value} (h : SlV w T sz v n vs) {b : Nat} (hb : v.ownBlock = some b) : ∃ C, w.heap[b]? = some (.cells C T (0, 0)) := by
  rcases h with ⟨rfl, _⟩ | ⟨g', o, c, rfl, C, h, _⟩
  · cases hb
  · injection hb with e
    subst e
    exact ⟨C, h⟩
/-- The table in block g: its maps' blocks mi, mo, its list u. -/
structure TMem (w : World) (S : Nat → Prop) (g : Nat) (M last : Int) (L : TL) (mi mo : Nat) (u : Value) (KI : Tu → Prop) (RI : Tu → Value) (KO : Tu → Prop) (RO : Tu → Value) : Prop where
  box : w.heap[g]? = some (.cells #[.pointer (some ⟨g, 0, none⟩), .int .i64 M, .int .u64 last, .map (some mi), .map (some mo), u] 72 (0, 0))
  inn : MTP w mi KI RI
  out : MTP w mo KO RO
  row : SlV w 51 12 u L.length (flatF L)
  im : mi ≠ mo
  sg : S g
  si : S mi
  so : S mo
  su : ∀ b, u.ownBlock = some b → S b
  lt : ∀ k, S k → k < w.heap.size
section
variable {w w' : World} {S T : Nat → Prop} {g : Nat} {M last : Int} {L : TL} {mi mo : Nat} {u : Value} {KI : Tu → Prop} {RI : Tu → Value} {KO : Tu → Prop} {RO : Tu → Value}
theorem TMem.but (h : TMem w S g M last L mi mo u KI RI KO RO) (hb : But T w w') (hT : ∀ k, S k → ¬ T k) : TMem w' S g M last L mi mo u KI RI KO RO :=
  ⟨hb.blk h.box (hT _ h.sg), h.inn.but hb (hT _ h.si), h.out.but hb (hT _ h.so), h.row.but hb (fun b e => hT _ (h.su b e)), h.im, h.sg, h.si, h.so, h.su, fun k hk => hb.lt (h.lt k hk)⟩
theorem TMem.below (h : TMem w S g M last L mi mo u KI RI KO RO) (hb : Below w.heap.size w w') : TMem w' S g M last L mi mo u KI RI KO RO := h.but (But.of (S := fun _ => False) hb) (fun _ _ h => h)
theorem TMem.drewN (h : TMem w S g M last L mi mo u KI RI KO RO) (n : Nat) : TMem (w.drewN n) S g M last L mi mo u KI RI KO RO := h.but (T := fun _ => False) ((But.refl _ _).drewN n) (fun _ _ h => h)
theorem TMem.k0 (h : TMem w S g M last L mi mo u KI RI KO RO) : w.cell? ⟨g, 0, none⟩ = some (.pointer (some ⟨g, 0, none⟩)) := blk_cell h.box 0
theorem TMem.k1 (h : TMem w S g M last L mi mo u KI RI KO RO) : w.cell? ⟨g, 1, none⟩ = some (.int .i64 M) := blk_cell h.box 1
theorem TMem.k2 (h : TMem w S g M last L mi mo u KI RI KO RO) : w.cell? ⟨g, 2, none⟩ = some (.int .u64 last) := blk_cell h.box 2
theorem TMem.k3 (h : TMem w S g M last L mi mo u KI RI KO RO) : w.cell? ⟨g, 3, none⟩ = some (.map (some mi)) := blk_cell h.box 3
theorem TMem.k4 (h : TMem w S g M last L mi mo u KI RI KO RO) : w.cell? ⟨g, 4, none⟩ = some (.map (some mo)) := blk_cell h.box 4
theorem TMem.k5 (h : TMem w S g M last L mi mo u KI RI KO RO) : w.cell? ⟨g, 5, none⟩ = some u := blk_cell h.box 5
theorem TMem.free (h : TMem w S g M last L mi mo u KI RI KO RO) (i : Nat) : w.frozen? ⟨g, i, none⟩ = false := blk_free h.box i
theorem TMem.gi (h : TMem w S g M last L mi mo u KI RI KO RO) : g ≠ mi := by
  rintro rfl
  obtain ⟨es, clock, hm⟩ := h.inn
  have := h.box.symm.trans hm.at_
  cases this
theorem TMem.go (h : TMem w S g M last L mi mo u KI RI KO RO) : g ≠ mo := by
  rintro rfl
  obtain ⟨es, clock, hm⟩ := h.out
  have := h.box.symm.trans hm.at_
  cases this
theorem TMem.gu (h : TMem w S g M last L mi mo u KI RI KO RO) {b : Nat} (hb : u.ownBlock = some b) : g ≠ b := by
  rintro rfl
  obtain ⟨C', hC⟩ := h.row.blkT hb
  have := h.box.symm.trans hC
  injection this with e
  injection e with _ e
  revert e
  decide
theorem TMem.iu (h : TMem w S g M last L mi mo u KI RI KO RO) {b : Nat} (hb : u.ownBlock = some b) : mi ≠ b := by
  rintro rfl
  obtain ⟨C', hC⟩ := h.row.blkT hb
  obtain ⟨es, clock, hm⟩ := h.inn
  have := hm.at_.symm.trans hC
  cases this
theorem TMem.ou (h : TMem w S g M last L mi mo u KI RI KO RO) {b : Nat} (hb : u.ownBlock = some b) : mo ≠ b := by
  rintro rfl
  obtain ⟨C', hC⟩ := h.row.blkT hb
  obtain ⟨es, clock, hm⟩ := h.out
  have := hm.at_.symm.trans hC
  cases this
end
theorem info_table : (Try.prog.info? 72).isSome = true := by kernel_rfl
theorem tneq_same (a : Addr) (w : World) : (binOp .neq 23 (.pointer (some a)) (.pointer (some a))).run Try.prog w = .ok (.bool false) w := by
  obtain ⟨j, hj⟩ := Option.isSome_iff_exists.1 info_table
  have h : ∀ d : Nat, (Op.equalIn (d + 1) 23 (.pointer (some a)) (.pointer (some a))).run Try.prog w = .ok true w := fun d => by
    simp [Op.equalIn, run_underlying Try.underlying23, sizeOf, typeInfo, hj, run_sameAddr_same]
  simp only [binOp]
  simp [Op.equal, Op.maxDepth, h 9999]
theorem tneq_none (a : Addr) (w : World) : (binOp .neq 23 (.pointer none) (.pointer (some a))).run Try.prog w = .ok (.bool true) w := by
  have h : ∀ d : Nat, (Op.equalIn (d + 1) 23 (.pointer none) (.pointer (some a))).run Try.prog w = .ok false w := fun d => by
    simp [Op.equalIn, run_underlying Try.underlying23]
  simp only [binOp]
  simp [Op.equal, Op.maxDepth, h 9999]
theorem tnone_nil (w : World) : Calls Try.prog 34 #[.pointer none] w (JustIs (.bool true) w) := by
  go_enter Try.func34, Try.ntmps34
  go_wp2_with fail
  go_ret
  exact ⟨rfl, rfl⟩
theorem tnone_no (g : Nat) (w : World) (h : w.cell? ⟨g, 0, none⟩ = some (.pointer (some ⟨g, 0, none⟩))) : Calls Try.prog 34 #[.pointer (some ⟨g, 0, none⟩)] w (JustIs (.bool false) w) := by
  have hq := tneq_same ⟨g, 0, none⟩ w
  go_enter Try.func34, Try.ntmps34
  go_wp2_with fail
  go_ret
  exact ⟨rfl, rfl⟩
theorem tnone_zero (g : Nat) (w : World) (h : w.cell? ⟨g, 0, none⟩ = some (.pointer none)) : Calls Try.prog 34 #[.pointer (some ⟨g, 0, none⟩)] w (JustIs (.bool true) w) := by
  have hq := tneq_none ⟨g, 0, none⟩ w
  go_enter Try.func34, Try.ntmps34
  go_wp2_with fail
  go_ret
  exact ⟨rfl, rfl⟩
theorem zero_any (t : Tu) (w : World) (x : Bool) (hx : decide (t = zT) = x) : Calls Try.prog 35 #[.agg #[.int .u8 t.pr, .int .u32 t.sr, .int .u32 t.ds, .int .u16 t.sp, .int .u16 t.dp]] w (BoolIs x w) := by
  have heq := tu_eql t zT
  have hs : tuSame t zT = x := by rw [← hx, Bool.eq_iff_iff, tuSame_iff]; simp
  rw [hs] at heq
  have Hb := Lib.hid ((Below.refl w.heap.size w).alloc (Nat.le_refl _) (.cells #[.int .u8 t.pr, .int .u32 t.sr, .int .u32 t.ds, .int .u16 t.sp, .int .u16 t.dp] 37))
  unfold zT at heq
  simp only at heq
  clear hs hx
  go_enter Try.func35, Try.ntmps35
  go_wp2_with fail
  go_ret
  exact ⟨rfl, Hb.out⟩
theorem place1_any (gp pp z : Nat) (f : Fl) (id : Int) (x : Bool) (w : World) (h : w.cell? ⟨gp, pp, none⟩ = some (.int .u64 f.id)) (hz : w.cell? ⟨z, 0, none⟩ = some (.int .u64 id)) (hx : (f.id == id) = x) :
    Calls Try.prog 45 #[.pointer (some ⟨gp, pp, none⟩), .pointer (some ⟨z, 0, none⟩)] w (QuietT (.bool x) w) := by
  go_enter Try.func45, Try.ntmps45
  go_wp2_with fail
  go_quiet (fail)
  go_wp2_with fail
  go_ret
  exact ⟨rfl, nq, rfl⟩
theorem room1_any (gp pp : Nat) (f : Fl) (w : World) (h : w.cell? ⟨gp, pp + 11, none⟩ = some (.bool f.em)) :
    Calls Try.prog 46 #[.pointer (some ⟨gp, pp, none⟩)] w (QuietT (.bool f.em) w) := by
  go_enter Try.func46, Try.ntmps46
  go_wp2_with fail
  go_ret
  exact ⟨rfl, 0, rfl⟩
def fiR (r : Option Nat) : Int × Bool := match r with | none => (0, false) | some k => ((k : Int), true)
set_option maxHeartbeats 1000000 in
theorem find_id (g n c : Nat) (A : Option Addr) (L : TL) (z : Nat) (id : Int) (x : Int) (b : Bool) (w : World) (h5 : w.cell? ⟨g, 5, none⟩ = some (.slice A n c)) (h : SlV w 51 12 (.slice A n c) n (flatF L)) (hn : L.length = n) (hb : n ≤ 1000000) (hz : w.cell? ⟨z, 0, none⟩ = some (.int .u64 id)) (hx : fiR (atF id L) = (x, b)) :
    Calls Try.prog 44 #[.pointer (some ⟨g, 0, none⟩), .func (.func 45) #[] #[.pointer (some ⟨z, 0, none⟩)]] w (QuietT (.tuple #[.int .i64 x, .bool b]) w) := by
  have Hs := Lib.hid h
  have Hn := Lib.hid hn
  have Hx := Lib.hid hx
  clear h hn hx
  go_enter Try.func44, Try.ntmps44
  go_wp2_with fail
  go_loopg [12] n (fun gk i wr => ∃ j k : Nat, Hid (gk + j = n) ∧ j ≤ n ∧ i = .int .i64 (j : Int) ∧ Hid (∀ i, i < j → (fun f => decide (f.id = id)) (L.getD i f0) = false) ∧ wr = w.drewN k)
  case atStart => exact ⟨0, 0, rfl, Nat.zero_le _, rfl, Lib.hid (fun i hi => by omega), rfl⟩
  case round =>
    obtain ⟨j, k, hgk, hj, rfl, hno, rfl⟩ := hrel
    by_cases hjn : j < n
    · obtain ⟨gu, o, rfl, hidx, hfl, hlt⟩ := fl_index_t Hs.out Hn.out hjn
      obtain ⟨f, ef⟩ : ∃ f, L.getD j f0 = f := ⟨_, rfl⟩
      obtain ⟨p, ep⟩ : ∃ p, o + j * 12 = p := ⟨_, rfl⟩
      rw [ep] at hidx hfl
      rw [ef] at hfl
      obtain ⟨y, ey⟩ : ∃ y, (fun f => decide (f.id = id)) f = y := ⟨_, rfl⟩
      have Hc := Lib.hid ((place1_any gu p z f id y (w.drewN k) hfl.c0 hz ey))
      have hjd : decide ((j : Int) < (n : Int)) = true := decide_eq_true (by omega)
      have hjd2 : (j : Int) < (n : Int) := by omega
      have Hey := Lib.hid ey
      have Hef := Lib.hid ef
      clear hfl ef ep ey
      cases y with
      | true =>
        have Hr := Lib.hid (show x = (j : Int) ∧ b = true by
          have h := (find_at (p := (fun f => decide (f.id = id))) (L := L) (k := j) (by rw [Hn.out]; exact hjn) (by rw [Hef.out]; exact Hey.out) hno.out).1
          have h2 := Hx.out
          rw [show atF id L = some j from h] at h2
          simp only [fiR, Prod.mk.injEq] at h2
          exact ⟨h2.1.symm, h2.2.symm⟩)
        go_wp2_with fail
        refine Hc.out.mono ?_
        rintro e w3 ⟨rfl, q, rfl⟩
        go_wp2_with fail
        go_ret2
        exact ⟨by rw [Hr.out.1, Hr.out.2]; rfl, k + q, by first | rfl | rw [World.drewN_drewN]⟩
      | false =>
        have Hno := Lib.hid (show ∀ i, i < j + 1 → (fun f => decide (f.id = id)) (L.getD i f0) = false by
          intro i hi
          by_cases e : i = j
          · subst e; rw [Hef.out]; exact Hey.out
          · exact hno.out i (by omega))
        go_wp2_with fail
        refine Hc.out.mono ?_
        rintro e w3 ⟨rfl, q, rfl⟩
        go_wp2_with fail
        go_roundg (gk - 1)
        case measure => have := hgk.out; omega
        case rel => exact ⟨j + 1, k + q, by have := hgk.out; show gk - 1 + (j + 1) = _; omega, by omega, by go_num, Hno, by first | rfl | rw [World.drewN_drewN]⟩
    · obtain rfl : n = j := by omega
      have Hr := Lib.hid (show x = 0 ∧ b = false by
        have h := (find_non (p := (fun f => decide (f.id = id))) (L := L) (by rw [Hn.out]; exact hno.out)).1
        have h2 := Hx.out
        rw [show atF id L = none from h] at h2
        simp only [fiR, Prod.mk.injEq] at h2
        exact ⟨h2.1.symm, h2.2.symm⟩)
      go_wp2_with fail
      go_ret2
      exact ⟨by rw [Hr.out.1, Hr.out.2]; rfl, k, rfl⟩
set_option maxHeartbeats 1000000 in
theorem find_em (g n c : Nat) (A : Option Addr) (L : TL)  (x : Int) (b : Bool) (w : World) (h5 : w.cell? ⟨g, 5, none⟩ = some (.slice A n c)) (h : SlV w 51 12 (.slice A n c) n (flatF L)) (hn : L.length = n) (hb : n ≤ 1000000)  (hx : fiR (emF L) = (x, b)) :
    Calls Try.prog 44 #[.pointer (some ⟨g, 0, none⟩), .func (.func 46) #[] #[]] w (QuietT (.tuple #[.int .i64 x, .bool b]) w) := by
  have Hs := Lib.hid h
  have Hn := Lib.hid hn
  have Hx := Lib.hid hx
  clear h hn hx
  go_enter Try.func44, Try.ntmps44
  go_wp2_with fail
  go_loopg [12] n (fun gk i wr => ∃ j k : Nat, Hid (gk + j = n) ∧ j ≤ n ∧ i = .int .i64 (j : Int) ∧ Hid (∀ i, i < j → (fun f => f.em) (L.getD i f0) = false) ∧ wr = w.drewN k)
  case atStart => exact ⟨0, 0, rfl, Nat.zero_le _, rfl, Lib.hid (fun i hi => by omega), rfl⟩
  case round =>
    obtain ⟨j, k, hgk, hj, rfl, hno, rfl⟩ := hrel
    by_cases hjn : j < n
    · obtain ⟨gu, o, rfl, hidx, hfl, hlt⟩ := fl_index_t Hs.out Hn.out hjn
      obtain ⟨f, ef⟩ : ∃ f, L.getD j f0 = f := ⟨_, rfl⟩
      obtain ⟨p, ep⟩ : ∃ p, o + j * 12 = p := ⟨_, rfl⟩
      rw [ep] at hidx hfl
      rw [ef] at hfl
      obtain ⟨y, ey⟩ : ∃ y, (fun f => f.em) f = y := ⟨_, rfl⟩
      have Hc := Lib.hid ((show Calls Try.prog 46 #[.pointer (some ⟨gu, p, none⟩)] (w.drewN k) (QuietT (.bool y) (w.drewN k)) by have h1 := room1_any gu p f (w.drewN k) hfl.cb; rw [show f.em = y from ey] at h1; exact h1))
      have hjd : decide ((j : Int) < (n : Int)) = true := decide_eq_true (by omega)
      have hjd2 : (j : Int) < (n : Int) := by omega
      have Hey := Lib.hid ey
      have Hef := Lib.hid ef
      clear hfl ef ep ey
      cases y with
      | true =>
        have Hr := Lib.hid (show x = (j : Int) ∧ b = true by
          have h := (find_at (p := (fun f => f.em)) (L := L) (k := j) (by rw [Hn.out]; exact hjn) (by rw [Hef.out]; exact Hey.out) hno.out).1
          have h2 := Hx.out
          rw [show emF L = some j from h] at h2
          simp only [fiR, Prod.mk.injEq] at h2
          exact ⟨h2.1.symm, h2.2.symm⟩)
        go_wp2_with fail
        refine Hc.out.mono ?_
        rintro e w3 ⟨rfl, q, rfl⟩
        go_wp2_with fail
        go_ret2
        exact ⟨by rw [Hr.out.1, Hr.out.2]; rfl, k + q, by first | rfl | rw [World.drewN_drewN]⟩
      | false =>
        have Hno := Lib.hid (show ∀ i, i < j + 1 → (fun f => f.em) (L.getD i f0) = false by
          intro i hi
          by_cases e : i = j
          · subst e; rw [Hef.out]; exact Hey.out
          · exact hno.out i (by omega))
        go_wp2_with fail
        refine Hc.out.mono ?_
        rintro e w3 ⟨rfl, q, rfl⟩
        go_wp2_with fail
        go_roundg (gk - 1)
        case measure => have := hgk.out; omega
        case rel => exact ⟨j + 1, k + q, by have := hgk.out; show gk - 1 + (j + 1) = _; omega, by omega, by go_num, Hno, by first | rfl | rw [World.drewN_drewN]⟩
    · obtain rfl : n = j := by omega
      have Hr := Lib.hid (show x = 0 ∧ b = false by
        have h := (find_non (p := (fun f => f.em)) (L := L) (by rw [Hn.out]; exact hno.out)).1
        have h2 := Hx.out
        rw [show emF L = none from h] at h2
        simp only [fiR, Prod.mk.injEq] at h2
        exact ⟨h2.1.symm, h2.2.symm⟩)
      go_wp2_with fail
      go_ret2
      exact ⟨by rw [Hr.out.1, Hr.out.2]; rfl, k, rfl⟩
end Go.Proofs.Ytnhlbohdlnjaaaa
