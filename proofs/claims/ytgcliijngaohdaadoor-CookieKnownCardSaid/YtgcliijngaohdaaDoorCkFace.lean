/-
  What law 17 needs of the program's calls, and 'awake' over it.
-/
import Derived.Test.YtgcliijngaohdaaDoorCkRefCheck
namespace Go.Proofs.YtgcliijngaohdaaDoor
set_option maxRecDepth 10000
open Go.RowKit
set_option linter.unusedSimpArgs false
set_option linter.unusedVariables false

/-- The classes' numbers lie in the program's array. -/
def SzW (W : World) : Prop := 0 < W.heap.size ∧ ∀ i : Nat, i < 8 → W.cell? ⟨0, i, none⟩ = some (.int .u16 (szC (i : Int)))
theorem SzW.on {w w' : World} (h : SzW w) (hb : Below w.heap.size w w') : SzW w' :=
  ⟨Nat.lt_of_lt_of_le h.1 hb.size, fun i hi => (hb.cell (p := ⟨0, i, none⟩) h.1).trans (h.2 i hi)⟩
def ClassF17 : Prop := ∀ (m i : Int) (b : Bool) (w : World), 0 ≤ m ∧ m < 65536 → clsI m = i → clsB m = b → SzW w → Calls Tryd.prog 9 #[.int .u16 m] w (TellsC (.tuple #[.int .i64 i, .bool b]) w)
def SizeF17 : Prop := ∀ (c n e : Int) (w : World), szC c = n → szE c = e → SzW w → Calls Tryd.prog 11 #[.int .i64 c] w (TellsC (.tuple #[.int .u16 n, .int .i64 e]) w)
def HashF17 : Prop := ∀ (key : Int) (t : Tu) (cl ep y : Int) (w : World), U64C key → TuNum t → 0 ≤ cl ∧ cl < 4294967296 → U64C ep → hashC key t cl ep = y → Calls Tryd.prog 16 #[.int .u64 key, .agg #[.int .u8 t.pr, .int .u32 t.sr, .int .u32 t.ds, .int .u16 t.sp, .int .u16 t.dp], .int .u32 cl, .int .u64 ep] w (TellsC (.int .u64 y) w)
def MakeF17 : Prop := ∀ (key : Int) (t : Tu) (cl tick c : Int) (k : Bool) (s y e : Int) (w : World), U64C key → TuNum t → 0 ≤ cl ∧ cl < 4294967296 → U64C tick → InfoN c s → makeV key t cl tick c k s = y → makeE c s = e → SzW w →
  Calls Tryd.prog 13 #[.int .u64 key, .agg #[.int .u8 t.pr, .int .u32 t.sr, .int .u32 t.ds, .int .u16 t.sp, .int .u16 t.dp], .int .u32 cl, .int .u64 tick, .agg #[.int .i64 c, .bool k, .int .i64 s]] w (TellsC (.tuple #[.int .u32 y, .int .i64 e]) w)
def CheckF17 : Prop := ∀ (key : Int) (t : Tu) (cl tick ck : Int) (b : Bool) (w : World), U64C key → TuNum t → 0 ≤ cl ∧ cl < 4294967296 → U64C tick → 0 ≤ ck ∧ ck < 4294967296 → isC key t cl tick ck = b →
  Calls Tryd.prog 18 #[.int .u64 key, .agg #[.int .u8 t.pr, .int .u32 t.sr, .int .u32 t.ds, .int .u16 t.sp, .int .u16 t.dp], .int .u32 cl, .int .u64 tick, .int .u32 ck] w (TellsC (.tuple #[.agg #[.int .i64 (chkC b ck), .bool (chkK b ck), .int .i64 (chkS b ck)], .int .i64 (chkE b)]) w)
theorem cells8C {w : World} {g : Nat} {v0 v1 v2 v3 v4 v5 v6 v7 : Value} {t : TypeId} (h : w.heap[g]? = some (.cells #[v0, v1, v2, v3, v4, v5, v6, v7] t (0, 0))) : w.cell? ⟨g, 0, none⟩ = some v0 ∧ w.cell? ⟨g, 1, none⟩ = some v1 ∧ w.cell? ⟨g, 2, none⟩ = some v2 ∧ w.cell? ⟨g, 3, none⟩ = some v3 ∧ w.cell? ⟨g, 4, none⟩ = some v4 ∧ w.cell? ⟨g, 5, none⟩ = some v5 ∧ w.cell? ⟨g, 6, none⟩ = some v6 ∧ w.cell? ⟨g, 7, none⟩ = some v7 := by
  refine ⟨?_, ?_, ?_, ?_, ?_, ?_, ?_, ?_⟩ <;> (rw [blk_cell h]; rfl)
theorem cells3C {w : World} {g : Nat} {v0 v1 v2 : Value} {t : TypeId} (h : w.heap[g]? = some (.cells #[v0, v1, v2] t (0, 0))) : w.cell? ⟨g, 0, none⟩ = some v0 ∧ w.cell? ⟨g, 1, none⟩ = some v1 ∧ w.cell? ⟨g, 2, none⟩ = some v2 := by
  refine ⟨?_, ?_, ?_⟩ <;> (rw [blk_cell h]; rfl)
theorem makeE_bd (c s : Int) : makeE c s = 0 ∨ makeE c s = 1 := by unfold makeE; split <;> simp
set_option maxHeartbeats 2000000 in
theorem awake17_any (fc : ClassF17) (fm : MakeF17) (w : World) (hsz : SzW w) : Calls Tryd.prog 15 #[] w (TellsC (.bool true) w) := by
  have HB := Lib.hid (Below.refl w.heap.size w)
  have HZ := Lib.hid (fun W (hW : Below w.heap.size w W) => hsz.on hW)
  clear hsz
  have ht : TuNum ⟨6, 0, 0, 0, 0⟩ := ⟨by simp, by simp, by simp, by simp, by simp⟩
  obtain ⟨y1, e1⟩ : ∃ y, makeV 1 ⟨6, 0, 0, 0, 0⟩ 2 3 7 true 7 = y := ⟨_, rfl⟩
  obtain ⟨y2, e2⟩ : ∃ y, makeV 1 ⟨6, 0, 0, 0, 0⟩ 2 3 2 false (-1) = y := ⟨_, rfl⟩
  have p1 := (make_parts 1 ⟨6, 0, 0, 0, 0⟩ 2 3 7 true 7 (by decide)).2
  have p2 := (make_parts 1 ⟨6, 0, 0, 0, 0⟩ 2 3 2 false (-1) (by decide)).2
  have d1 := makeV_bd 1 ⟨6, 0, 0, 0, 0⟩ 2 3 7 true 7
  have d2 := makeV_bd 1 ⟨6, 0, 0, 0, 0⟩ 2 3 2 false (-1)
  rw [e1] at p1 d1
  rw [e2] at p2 d2
  rw [show encC 7 true 7 = 247 by decide] at p1
  rw [show encC 2 false (-1) = 79 by decide] at p2
  have r1 : Int.tmod y1 256 = 247 := by rw [Int.tmod_eq_emod_of_nonneg d1.1]; exact p1
  have r2 : Int.tmod y2 256 = 79 := by rw [Int.tmod_eq_emod_of_nonneg d2.1]; exact p2
  have M1 := Lib.hid (fun W => fm 1 ⟨6, 0, 0, 0, 0⟩ 2 3 7 true 7 y1 0 W ⟨by decide, by decide⟩ ht (by decide) ⟨by decide, by decide⟩ ⟨by decide, by decide⟩ e1 (by decide))
  have M2 := Lib.hid (fun W => fm 1 ⟨6, 0, 0, 0, 0⟩ 2 3 2 false (-1) y2 0 W ⟨by decide, by decide⟩ ht (by decide) ⟨by decide, by decide⟩ ⟨by decide, by decide⟩ e2 (by decide))
  clear ht e1 e2 p1 p2 d1 d2
  go_enter Tryd.func15, Tryd.ntmps15
  go_wp2_with fail
  refine (fc 1460 7 true _ (by decide) (by decide) (by decide) (HZ.out _ HB.out)).mono ?_
  rintro e w1 ⟨rfl, hb⟩
  have HB := Lib.hid (below_trans HB.out hb)
  clear hb
  go_wp2_with fail
  refine (fc 1459 6 true _ (by decide) (by decide) (by decide) (HZ.out _ HB.out)).mono ?_
  rintro e w2 ⟨rfl, hb⟩
  have HB := Lib.hid (below_trans HB.out hb)
  clear hb
  go_wp2_with fail
  refine (fc 87 0 false _ (by decide) (by decide) (by decide) (HZ.out _ HB.out)).mono ?_
  rintro e w3 ⟨rfl, hb⟩
  have HB := Lib.hid (below_trans HB.out hb)
  clear hb
  go_wp2_with fail
  refine (M1.out _ (HZ.out _ HB.out)).mono ?_
  rintro e w4 ⟨rfl, hb⟩
  have HB := Lib.hid (below_trans HB.out hb)
  clear hb
  go_wp2_with fail
  refine (M2.out _ (HZ.out _ HB.out)).mono ?_
  rintro e w5 ⟨rfl, hb⟩
  have HB := Lib.hid (below_trans HB.out hb)
  clear hb
  go_wp2_with fail
  go_ret
  exact ⟨rfl, HB.out⟩
end Go.Proofs.YtgcliijngaohdaaDoor
