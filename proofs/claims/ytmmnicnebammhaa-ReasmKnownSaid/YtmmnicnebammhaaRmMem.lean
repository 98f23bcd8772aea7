/-
  A buffer of the program's in memory ('RMem'): none, number, has, behind, alone, Next, Room, Ready.
-/
import Derived.Test.YtmmnicnebammhaaMapB
import Derived.Test.YtmmnicnebammhaaRmPre
import Derived.Test.YtmmnicnebammhaaRmAlone
import Derived.Test.YtmmnicnebammhaaTk
import Derived.LaidEqlPtr
import Derived.Deep.LoopGhost
import Derived.Deep.CutRange
import Derived.BigRegion
import Derived.BigQuiet
namespace Go.Proofs.Ytmmnicnebammhaa
set_option maxRecDepth 10000
open Go.RowKit
set_option linter.unusedSimpArgs false
set_option linter.unusedVariables false

def keyR (nx : Nat) (L : BL) (e : Int) : Prop := ∃ i : Nat, isB L i = true ∧ e = ((nx + i : Nat) : Int)
def valR (nx : Nat) (L : BL) (e : Int) : Value := .int .u8 ((L.getD (e - (nx : Int)).toNat none).getD 0)
/-- The buffer in block g: its map's block m; it began at st, and waits for what is nx ahead of that; it has the bytes L from there on. -/
structure RMem (w : World) (S : Nat → Prop) (g m nx : Nat) (st : Int) (L : BL) : Prop where
  box : w.heap[g]? = some (.cells #[.pointer (some ⟨g, 0, none⟩), .int .u32 st, .int .i64 (nx : Int), .int .i64 ((nx + L.length : Nat) : Int), .map (some m)] 59 (0, 0))
  map : MBP w m (keyR nx L) (valR nx L)
  stb : 0 ≤ st ∧ st < 4294967296
  room : nx + L.length ≤ 16384
  byte : okB L
  sg : S g
  sm : S m
  lt : ∀ k, S k → k < w.heap.size
/-- The face's predicate. -/
def RmAt : BA := fun w S g at_ L => ∃ m nx st, RMem w S g m nx st L ∧ num32 (st + (nx : Int)) = at_ ∧ (heldB L).length ≤ 16
section
variable {w w' : World} {S T : Nat → Prop} {g m nx : Nat} {st : Int} {L : BL}
theorem RMem.but (h : RMem w S g m nx st L) (hb : But T w w') (hT : ∀ k, S k → ¬ T k) : RMem w' S g m nx st L :=
  ⟨hb.blk h.box (hT _ h.sg), h.map.but hb (hT _ h.sm), h.stb, h.room, h.byte, h.sg, h.sm, fun k hk => hb.lt (h.lt k hk)⟩
theorem RMem.on (h : RMem w S g m nx st L) (hb : Below w.heap.size w w') : RMem w' S g m nx st L := h.but (But.of (S := fun _ => False) hb) (fun _ _ h => h)
theorem RMem.drewN (h : RMem w S g m nx st L) (n : Nat) : RMem (w.drewN n) S g m nx st L := h.but (T := fun _ => False) ((But.refl _ _).drewN n) (fun _ _ h => h)
theorem RMem.k0 (h : RMem w S g m nx st L) : w.cell? ⟨g, 0, none⟩ = some (.pointer (some ⟨g, 0, none⟩)) := by rw [blk_cell h.box]; rfl
theorem RMem.k1 (h : RMem w S g m nx st L) : w.cell? ⟨g, 1, none⟩ = some (.int .u32 st) := by rw [blk_cell h.box]; rfl
theorem RMem.k2 (h : RMem w S g m nx st L) : w.cell? ⟨g, 2, none⟩ = some (.int .i64 (nx : Int)) := by rw [blk_cell h.box]; rfl
theorem RMem.k3 (h : RMem w S g m nx st L) : w.cell? ⟨g, 3, none⟩ = some (.int .i64 ((nx + L.length : Nat) : Int)) := by rw [blk_cell h.box]; rfl
theorem RMem.k4 (h : RMem w S g m nx st L) : w.cell? ⟨g, 4, none⟩ = some (.map (some m)) := by rw [blk_cell h.box]; rfl
theorem RMem.free (h : RMem w S g m nx st L) (i : Nat) : w.frozen? ⟨g, i, none⟩ = false := blk_free h.box i
theorem RMem.gm (h : RMem w S g m nx st L) : g ≠ m := by
  rintro rfl
  obtain ⟨es, clock, hm⟩ := h.map
  have := h.box.symm.trans hm.at_
  cases this
theorem key_at (nx : Nat) (L : BL) (i : Nat) : keyR nx L ((nx + i : Nat) : Int) ↔ isB L i = true := by
  unfold keyR
  constructor
  · rintro ⟨j, h1, h2⟩
    have : j = i := by omega
    rw [← this]; exact h1
  · intro h
    exact ⟨i, h, rfl⟩
/-- As many entries as bytes. -/
theorem have_keys (nx : Nat) (L : BL) : ∃ l : List Int, l.Nodup ∧ l.length = haveB L ∧ ∀ e, keyR nx L e ↔ e ∈ l := by
  refine ⟨((List.range L.length).filter (isB L)).map (fun i => ((nx + i : Nat) : Int)), ?_, ?_, fun e => ?_⟩
  · rw [List.Nodup, List.pairwise_map]
    exact ((List.nodup_range).filter _).imp (fun hne he => hne (by omega))
  · rw [List.length_map, ← List.countP_eq_length_filter]
    have key : ∀ (L : BL), (List.range L.length).countP (isB L) = L.countP Option.isSome := by
      intro L
      induction L with
      | nil => rfl
      | cons o l ih =>
        rw [List.length_cons, List.range_succ_eq_map, List.countP_cons, List.countP_map, List.countP_cons, ← ih]
        congr 1
    exact key L
  · unfold keyR
    rw [List.mem_map]
    constructor
    · rintro ⟨i, h1, h2⟩
      exact ⟨i, by rw [List.mem_filter, List.mem_range]; exact ⟨isB_lt h1, h1⟩, h2.symm⟩
    · rintro ⟨i, h1, h2⟩
      rw [List.mem_filter] at h1
      exact ⟨i, h1.2, h2.symm⟩
end
theorem info_buf : (Try.prog.info? 59).isSome = true := by kernel_rfl
theorem bneq_same (a : Addr) (w : World) : (binOp .neq 24 (.pointer (some a)) (.pointer (some a))).run Try.prog w = .ok (.bool false) w := by
  obtain ⟨j, hj⟩ := Option.isSome_iff_exists.1 info_buf
  have h : ∀ d : Nat, (Op.equalIn (d + 1) 24 (.pointer (some a)) (.pointer (some a))).run Try.prog w = .ok true w := fun d => by
    simp [Op.equalIn, run_underlying Try.underlying24, sizeOf, typeInfo, hj, run_sameAddr_same]
  simp only [binOp]
  simp [Op.equal, Op.maxDepth, h 9999]
theorem bneq_none (a : Addr) (w : World) : (binOp .neq 24 (.pointer none) (.pointer (some a))).run Try.prog w = .ok (.bool true) w := by
  have h : ∀ d : Nat, (Op.equalIn (d + 1) 24 (.pointer none) (.pointer (some a))).run Try.prog w = .ok false w := fun d => by
    simp [Op.equalIn, run_underlying Try.underlying24]
  simp only [binOp]
  simp [Op.equal, Op.maxDepth, h 9999]
/-- Just the answer. -/
def JustR (v : Value) (w : World) (e : Ending) (w' : World) : Prop := e = .returned v ∧ w = w'
theorem bnone_nil (w : World) : Calls Try.prog 23 #[.pointer none] w (JustR (.bool true) w) := by
  go_enter Try.func23, Try.ntmps23
  go_wp2_with fail
  go_ret
  exact ⟨rfl, rfl⟩
theorem bnone_no (g : Nat) (w : World) (h : w.cell? ⟨g, 0, none⟩ = some (.pointer (some ⟨g, 0, none⟩))) : Calls Try.prog 23 #[.pointer (some ⟨g, 0, none⟩)] w (JustR (.bool false) w) := by
  have hq := bneq_same ⟨g, 0, none⟩ w
  go_enter Try.func23, Try.ntmps23
  go_wp2_with fail
  go_ret
  exact ⟨rfl, rfl⟩
theorem bnone_zero (g : Nat) (w : World) (h : w.cell? ⟨g, 0, none⟩ = some (.pointer none)) : Calls Try.prog 23 #[.pointer (some ⟨g, 0, none⟩)] w (JustR (.bool true) w) := by
  have hq := bneq_none ⟨g, 0, none⟩ w
  go_enter Try.func23, Try.ntmps23
  go_wp2_with fail
  go_ret
  exact ⟨rfl, rfl⟩
section
variable {w : World} {S : Nat → Prop} {g m nx : Nat} {st : Int} {L : BL}
theorem number_any (h : RMem w S g m nx st L) (a x : Int) (hx : num32 (st + a) = x) : Calls Try.prog 30 #[.pointer (some ⟨g, 0, none⟩), .int .i64 a] w (JustR (.int .u32 x) w) := by
  have k1 := h.k1
  have hx2 : sAdd st a = x := hx
  clear h hx
  go_enter Try.func30, Try.ntmps30
  go_wp2_with (go_at_call 34; refine (add_any _ _ _).mono ?_; rintro e w' ⟨rfl, rfl⟩; rw [hx2])
  go_ret
  exact ⟨rfl, rfl⟩
theorem has_any (h : RMem w S g m nx st L) (i : Nat) (a : Int) (ha : a = ((nx + i : Nat) : Int)) (q : Bool) (hq : isB L i = q) : Calls Try.prog 35 #[.pointer (some ⟨g, 0, none⟩), .int .i64 a] w (JustR (.bool q) w) := by
  have k4 := h.k4
  cases q with
  | true =>
    have hl := h.map.lookok_b (e := a) (by rw [ha]; exact (key_at nx L i).2 hq)
    clear h hq ha
    go_enter Try.func35, Try.ntmps35
    go_wp2_with fail
    go_ret
    exact ⟨rfl, rfl⟩
  | false =>
    have hl := h.map.lookno_b (e := a) (by rw [ha, key_at nx L i, hq]; simp)
    clear h hq ha
    go_enter Try.func35, Try.ntmps35
    go_wp2_with fail
    go_ret
    exact ⟨rfl, rfl⟩
theorem behind_any (h : RMem w S g m nx st L) (i r : Nat) (a : Int) (ha : a = ((nx + i : Nat) : Int)) (hr : readyB (L.drop i) = r) (hi : i ≤ L.length) : Calls Try.prog 28 #[.pointer (some ⟨g, 0, none⟩), .int .i64 a] w (JustR (.int .i64 ((nx + (i + r) : Nat) : Int)) w) := by
  have H := Lib.hid h
  have hrl := ready_le (L.drop i)
  rw [List.length_drop, hr] at hrl
  have hrm := h.room
  obtain ⟨q1, q2⟩ := ready_run (L := L) (i := i)
  rw [hr] at q1 q2
  have Q1 := Lib.hid q1
  have Q2 := Lib.hid q2
  have Hrm := Lib.hid (And.intro hrm (And.intro hrl hi))
  clear h hr hrm hrl hi q1 q2
  subst ha
  go_enter Try.func28, Try.ntmps28
  go_wp2_with fail
  go_loopg [1] r (fun gk x wr => ∃ j : Nat, Hid (gk + j = r) ∧ x = .int .i64 ((nx + (i + j) : Nat) : Int) ∧ wr = w)
  case atStart => exact ⟨0, Lib.hid (by omega), rfl, rfl⟩
  case round =>
    obtain ⟨j, hgk, rfl, rfl⟩ := hrel
    obtain rfl : gk = r - j := by have := hgk.out; omega
    have hj : j ≤ r := by have := hgk.out; omega
    clear hgk
    by_cases hjr : j < r
    · have hb := Q1.out (i + j) (by omega) (by omega)
      have hbd : nx + (i + j) < 16384 := by have := Hrm.out; omega
      go_wp2_with (go_at_call 35; refine (has_any H.out (i + j) _ rfl true hb).mono ?_; rintro e w' ⟨rfl, rfl⟩)
      go_roundg (r - (j + 1))
      case measure => omega
      case rel => exact ⟨j + 1, Lib.hid (by omega), by go_num, rfl⟩
    · obtain rfl : j = r := by omega
      have hb := Q2.out
      go_wp2_with (go_at_call 35; refine (has_any H.out (i + j) _ rfl false hb).mono ?_; rintro e w' ⟨rfl, rfl⟩)
      go_ret
      exact ⟨rfl, rfl⟩
end
end Go.Proofs.Ytmmnicnebammhaa
