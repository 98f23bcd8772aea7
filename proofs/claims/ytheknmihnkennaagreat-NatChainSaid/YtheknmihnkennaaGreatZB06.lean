/-
  Texts laid together: IcmpSort, Map3, Hd, Opt.
-/
import Derived.Test.YtheknmihnkennaaGreatZB01
import Derived.Test.YtheknmihnkennaaGreatZB05
import Derived.WideMake
import Derived.Deep.RegionHeld3
import Derived.Test.YtheknmihnkennaaGreatZB02
import Derived.Deep.Slices
import Derived.ChangeSame

/-
  The contracts of package icmp's sorts (a map that the call makes), Sort, Echo.
-/
namespace Go.Proofs.YtheknmihnkennaaGreat
set_option maxRecDepth 10000
open Go.RowKit
set_option linter.unusedSimpArgs false
set_option linter.unusedVariables false

/-- What the map holds. -/
def sortsO : Obj := .map #[⟨.int .u8 0, .int .i64 2, 0⟩, ⟨.int .u8 3, .int .i64 3, 1⟩, ⟨.int .u8 8, .int .i64 1, 2⟩, ⟨.int .u8 11, .int .i64 3, 3⟩, ⟨.int .u8 12, .int .i64 3, 4⟩] 5
theorem findU8 (k : Int) : ∀ (es : List MapEntry) (i : Nat), (∀ e ∈ es, ∃ j : Int, e.key = .int .u8 j ∧ (k == j) = false) → Instr.findNow (.int .u8) (.int .u8 k) es i = some none
  | [], _, _ => rfl
  | e :: es, i, h => by
    obtain ⟨j, hj, hk⟩ := h e (.head _)
    have := findU8 k es (i + 1) (fun x hx => h x (.tail _ hx))
    simp [Instr.findNow, Instr.sameNow, hj, hk, this]
theorem check_u8 (k : Int) (w : World) (e : Bool) : (Instr.checkKey e 10000 5 (.int .u8 k)).run Tryz.prog w = .ok () w :=
  MapKept.run_checkKey (k := .int .u8 k) Tryz.underlying5 (by simp [MapKept.IsKey]) e 9999
def setO (w : World) (b : Nat) (o : Obj) : World := { w with heap := w.heap.setIfInBounds b o }
theorem put_u8 (w : World) (b : Nat) (es : Array MapEntry) (clock : Nat) (k v : Int) (hb : w.heap[b]? = some (.map es clock)) (hf : Instr.findNow (.int .u8) (.int .u8 k) es.toList 0 = some none) :
    (Instr.mapUpdate 78 (.map (some b)) (.int .u8 k) (.int .i64 v)).run Tryz.prog w = .ok () (setO w b (.map (es.push ⟨.int .u8 k, .int .i64 v, clock⟩) (clock + 1))) := by
  simp [setO, Instr.mapUpdate, run_underlying Tryz.underlying78, MapKept.run_getObj_map hb, check_u8 k w, MapKept.run_findKey Tryz.underlying5 hf, MapKept.run_setObj_map _ hb, Result.andThen]
theorem info_int : (Tryz.prog.info? 3).map (·.zero) = some (some (.int .i64 0)) := by kernel_rfl
theorem zero_int (w : World) : (zeroValue 3).run Tryz.prog w = .ok (.int .i64 0) w := by
  have h := info_int
  cases hi : Tryz.prog.info? 3 with
  | none => rw [hi] at h; simp at h
  | some i =>
    rw [hi] at h
    simp at h
    simp [zeroValue, typeInfo, hi, h, go_sem]
theorem look_u8 (w : World) (b : Nat) (es : Array MapEntry) (clock : Nat) (k x : Int) (hb : w.heap[b]? = some (.map es clock))
    (hf : Instr.findNow (.int .u8) (.int .u8 k) es.toList 0 = some none ∧ x = 0 ∨ ∃ i, Instr.findNow (.int .u8) (.int .u8 k) es.toList 0 = some (some (i, .int .i64 x))) :
    (Instr.lookup 78 (.map (some b)) (.int .u8 k) false).run Tryz.prog w = .ok (.int .i64 x) w := by
  rcases hf with ⟨hf, rfl⟩ | ⟨i, hf⟩
  · simp [Instr.lookup, run_underlying Tryz.underlying78, MapKept.run_getObj_map hb, check_u8 k w, MapKept.run_findKey Tryz.underlying5 hf, zero_int, Result.andThen]
  · simp [Instr.lookup, run_underlying Tryz.underlying78, MapKept.run_getObj_map hb, check_u8 k w, MapKept.run_findKey Tryz.underlying5 hf, Result.andThen]
theorem setO_at {w : World} {b : Nat} {o : Obj} (o' : Obj) (hb : w.heap[b]? = some o) : (setO w b o').heap[b]? = some o' := by
  have := lt_of_block hb
  simp [setO, this]
theorem setO_below {W w : World} {B b : Nat} {o : Obj} (h : Below B W w) (hb : B ≤ b) : Below B W (setO w b o) :=
  ⟨h.os, h.tape, h.output, by simpa [setO] using h.size, fun k hk => by
    have := h.block k hk
    rw [← this]
    simp only [setO]
    rw [Array.getElem?_setIfInBounds_ne (by omega)]⟩
def SortsIs (w : World) (e : Ending) (w' : World) : Prop := ∃ g, e = .returned (.map (some g)) ∧ w'.heap[g]? = some sortsO ∧ Below w.heap.size w w'
theorem sorts_any (w : World) : Calls Tryz.prog 110 #[] w (SortsIs w) := by
  obtain ⟨w0, e0⟩ : ∃ w0, w.alloc (.map #[] 0) = w0 := ⟨_, rfl⟩
  have k0 : w0.heap[w.heap.size]? = some (.map #[] 0) := by rw [← e0]; exact heap_alloc_new w _
  have b0 : Below w.heap.size w w0 := by rw [← e0]; exact (Below.refl _ _).alloc (Nat.le_refl _) _
  have r1 := put_u8 w0 w.heap.size _ _ 0 2 k0 (findU8 _ _ _ (by simp))
  have k1 := setO_at (.map (#[].push ⟨.int .u8 0, .int .i64 2, 0⟩) 1) k0
  have b1 := setO_below (o := .map (#[].push ⟨.int .u8 0, .int .i64 2, 0⟩) 1) b0 (Nat.le_refl _)
  simp only [List.push_toArray, List.nil_append, List.cons_append, Nat.reduceAdd] at r1 k1 b1
  obtain ⟨w1, e1⟩ : ∃ v, setO w0 w.heap.size (.map #[⟨.int .u8 0, .int .i64 2, 0⟩] 1) = v := ⟨_, rfl⟩
  rw [e1] at r1 k1 b1
  clear e1
  have r2 := put_u8 w1 w.heap.size _ _ 3 3 k1 (findU8 _ _ _ (by simp))
  have k2 := setO_at (.map (#[⟨.int .u8 0, .int .i64 2, 0⟩].push ⟨.int .u8 3, .int .i64 3, 1⟩) 2) k1
  have b2 := setO_below (o := .map (#[⟨.int .u8 0, .int .i64 2, 0⟩].push ⟨.int .u8 3, .int .i64 3, 1⟩) 2) b1 (Nat.le_refl _)
  simp only [List.push_toArray, List.nil_append, List.cons_append, Nat.reduceAdd] at r2 k2 b2
  obtain ⟨w2, e2⟩ : ∃ v, setO w1 w.heap.size (.map #[⟨.int .u8 0, .int .i64 2, 0⟩, ⟨.int .u8 3, .int .i64 3, 1⟩] 2) = v := ⟨_, rfl⟩
  rw [e2] at r2 k2 b2
  clear e2
  have r3 := put_u8 w2 w.heap.size _ _ 8 1 k2 (findU8 _ _ _ (by simp))
  have k3 := setO_at (.map (#[⟨.int .u8 0, .int .i64 2, 0⟩, ⟨.int .u8 3, .int .i64 3, 1⟩].push ⟨.int .u8 8, .int .i64 1, 2⟩) 3) k2
  have b3 := setO_below (o := .map (#[⟨.int .u8 0, .int .i64 2, 0⟩, ⟨.int .u8 3, .int .i64 3, 1⟩].push ⟨.int .u8 8, .int .i64 1, 2⟩) 3) b2 (Nat.le_refl _)
  simp only [List.push_toArray, List.nil_append, List.cons_append, Nat.reduceAdd] at r3 k3 b3
  obtain ⟨w3, e3⟩ : ∃ v, setO w2 w.heap.size (.map #[⟨.int .u8 0, .int .i64 2, 0⟩, ⟨.int .u8 3, .int .i64 3, 1⟩, ⟨.int .u8 8, .int .i64 1, 2⟩] 3) = v := ⟨_, rfl⟩
  rw [e3] at r3 k3 b3
  clear e3
  have r4 := put_u8 w3 w.heap.size _ _ 11 3 k3 (findU8 _ _ _ (by simp))
  have k4 := setO_at (.map (#[⟨.int .u8 0, .int .i64 2, 0⟩, ⟨.int .u8 3, .int .i64 3, 1⟩, ⟨.int .u8 8, .int .i64 1, 2⟩].push ⟨.int .u8 11, .int .i64 3, 3⟩) 4) k3
  have b4 := setO_below (o := .map (#[⟨.int .u8 0, .int .i64 2, 0⟩, ⟨.int .u8 3, .int .i64 3, 1⟩, ⟨.int .u8 8, .int .i64 1, 2⟩].push ⟨.int .u8 11, .int .i64 3, 3⟩) 4) b3 (Nat.le_refl _)
  simp only [List.push_toArray, List.nil_append, List.cons_append, Nat.reduceAdd] at r4 k4 b4
  obtain ⟨w4, e4⟩ : ∃ v, setO w3 w.heap.size (.map #[⟨.int .u8 0, .int .i64 2, 0⟩, ⟨.int .u8 3, .int .i64 3, 1⟩, ⟨.int .u8 8, .int .i64 1, 2⟩, ⟨.int .u8 11, .int .i64 3, 3⟩] 4) = v := ⟨_, rfl⟩
  rw [e4] at r4 k4 b4
  clear e4
  have r5 := put_u8 w4 w.heap.size _ _ 12 3 k4 (findU8 _ _ _ (by simp))
  have k5 := setO_at (.map (#[⟨.int .u8 0, .int .i64 2, 0⟩, ⟨.int .u8 3, .int .i64 3, 1⟩, ⟨.int .u8 8, .int .i64 1, 2⟩, ⟨.int .u8 11, .int .i64 3, 3⟩].push ⟨.int .u8 12, .int .i64 3, 4⟩) 5) k4
  have b5 := setO_below (o := .map (#[⟨.int .u8 0, .int .i64 2, 0⟩, ⟨.int .u8 3, .int .i64 3, 1⟩, ⟨.int .u8 8, .int .i64 1, 2⟩, ⟨.int .u8 11, .int .i64 3, 3⟩].push ⟨.int .u8 12, .int .i64 3, 4⟩) 5) b4 (Nat.le_refl _)
  simp only [List.push_toArray, List.nil_append, List.cons_append, Nat.reduceAdd] at r5 k5 b5
  obtain ⟨w5, e5⟩ : ∃ v, setO w4 w.heap.size (.map #[⟨.int .u8 0, .int .i64 2, 0⟩, ⟨.int .u8 3, .int .i64 3, 1⟩, ⟨.int .u8 8, .int .i64 1, 2⟩, ⟨.int .u8 11, .int .i64 3, 3⟩, ⟨.int .u8 12, .int .i64 3, 4⟩] 5) = v := ⟨_, rfl⟩
  rw [e5] at r5 k5 b5
  clear e5
  have K5 := Lib.hid k5
  have B5 := Lib.hid b5
  have hmk := run_makeMap_plain (P := Tryz.prog) w 78
  rw [e0] at hmk
  clear k0 k1 k2 k3 k4 k5 b0 b1 b2 b3 b4 b5
  go_enter Tryz.func110, Tryz.ntmps110
  go_wp2_with fail
  go_ret
  exact ⟨_, rfl, K5.out, B5.out⟩

/-- What stands in the map at a Type. -/
def kindM (ty : Int) : Int := if ty = 0 then 2 else if ty = 3 then 3 else if ty = 8 then 1 else if ty = 11 then 3 else if ty = 12 then 3 else 0
theorem look_sorts (w : World) (g : Nat) (ty y : Int) (hg : w.heap[g]? = some sortsO) (hy : kindM ty = y) : (Instr.lookup 78 (.map (some g)) (.int .u8 ty) false).run Tryz.prog w = .ok (.int .i64 y) w := by
  refine look_u8 w g _ _ ty y hg ?_
  subst hy
  by_cases h0 : ty = 0
  · subst h0; exact .inr ⟨0, rfl⟩
  by_cases h3 : ty = 3
  · subst h3; exact .inr ⟨1, rfl⟩
  by_cases h8 : ty = 8
  · subst h8; exact .inr ⟨2, rfl⟩
  by_cases h11 : ty = 11
  · subst h11; exact .inr ⟨3, rfl⟩
  by_cases h12 : ty = 12
  · subst h12; exact .inr ⟨4, rfl⟩
  exact .inl ⟨findU8 _ _ _ (by simp [h0, h3, h8, h11, h12]), by unfold kindM; rw [if_neg h0, if_neg h3, if_neg h8, if_neg h11, if_neg h12]⟩
theorem sort_kind (ty cd : Int) : sortM ty cd = if kindM ty ≠ 3 ∧ cd ≠ 0 then 0 else kindM ty := by
  unfold sortM kindM
  by_cases h0 : ty = 0
  · subst h0; by_cases hc : cd = 0 <;> simp [hc]
  by_cases h3 : ty = 3
  · subst h3; simp
  by_cases h8 : ty = 8
  · subst h8; by_cases hc : cd = 0 <;> simp [hc]
  by_cases h11 : ty = 11
  · subst h11; simp
  by_cases h12 : ty = 12
  · subst h12; simp
  simp [h0, h3, h8, h11, h12]
theorem anyH_mono {P : Program} {md : Region.Mode} {ops : Array Oper} {Q : Exit → Act → World → Prop} {S S' : World → Prop} (hS : ∀ w, S' w → S w) :
    ∀ (fuel : Nat) (listed : Array Bool) (a : Act) (w : World), wpAnyH P md ops Q S' fuel listed a w → wpAnyH P md ops Q S fuel listed a w
  | 0, _, _, _, h => h
  | fuel + 1, _, _, _, h => ⟨h.1, fun i hi => wpOp_mono (fun a' w' h' => ⟨hS w' h'.1, anyH_mono hS fuel _ a' w' h'.2⟩) (h.2 i hi)⟩
theorem sort8_any (ty cd rs : Int) (A : Option Addr) (n c : Nat) (x : Int) (w : World) (hx : sortM ty cd = x) :
    Calls Tryz.prog 88 #[.agg #[.int .u8 ty, .int .u8 cd, .int .u32 rs, .slice A n c]] w (IntIs x w) := by
  rw [sort_kind] at hx
  obtain ⟨y, hy⟩ : ∃ y, kindM ty = y := ⟨_, rfl⟩
  rw [hy] at hx
  have Hy := Lib.hid hy
  clear hy
  obtain ⟨z, hz⟩ : ∃ z, w.heap.size = z := ⟨_, rfl⟩
  obtain ⟨w0, ew⟩ : ∃ w0, w.alloc (.cells #[.int .u8 ty, .int .u8 cd, .int .u32 rs, .slice A n c] 33) = w0 := ⟨_, rfl⟩
  have Hb0 := Lib.hid (show Below w.heap.size w w0.drew by rw [← ew]; exact ((Below.refl _ _).alloc (Nat.le_refl _) _).drew)
  have HK := Lib.hid (show w0.drew.heap[z]? = some (.cells #[.int .u8 ty, .int .u8 cd, .int .u32 rs, .slice A n c] 33 (0, 0)) by rw [← ew, ← hz]; exact heap_alloc_new w _)
  go_enter Tryz.func88, Tryz.ntmps88
  go_upto_region 1 with (fail)
  try simp only [ew, hz]
  refine wp_region_held_drew (S := fun w' => w'.cell? ⟨z, 0, none⟩ = some (.int .u8 ty)) (by kernel_rfl) (cells4 HK.out).1 (fun hHeld => ?_)
  obtain ⟨wd, ewd⟩ : ∃ wd, w0.drew = wd := ⟨_, rfl⟩
  rw [ewd] at Hb0 HK hHeld ⊢
  clear ewd ew hz
  refine tk 1 ?_ rfl ?_ ?_
  rotate_left
  · intro w' hSw; (go_simp <;> (with_reducible rfl))
  try simp only [Act.put, putL]
  refine tk 2 ?_ rfl ?_ ?_
  rotate_left
  · intro w' hSw; (go_simp <;> (with_reducible rfl))
  try simp only [Act.put, putL]
  refine tkC 0 rfl (fun K hK => ?_)
  go_simp
  (refine (sorts_any _).mono ?_; rintro e w1 ⟨g, rfl, hg, hb1⟩; have HG := Lib.hid hg; have Hb1 := Lib.hid hb1; clear hg hb1)
  refine hK.out _ _ ?_ (fun hHeld => ?_)
  · exact (cells4 (blk_on HK.out Hb1.out)).1
  clear hK K
  try simp only [Act.put, putL]
  refine anyH_mono (S' := fun w' => w'.cell? ⟨z, 0, none⟩ = some (.int .u8 ty) ∧ w'.heap[g]? = some sortsO) (fun _ h => h.1) _ _ _ _ ?_
  have hHeld := And.intro (cells4 (blk_on HK.out Hb1.out)).1 HG.out
  have hlook := fun W h => look_sorts W g ty y h Hy.out
  refine tk 3 ?_ rfl ?_ ?_
  rotate_left
  · intro w' hSw; (go_simp <;> (with_reducible rfl))
  try simp only [Act.put, putL]
  refine tk 4 ?_ rfl ?_ ?_
  rotate_left
  · intro w' hSw; (go_simp <;> (with_reducible rfl))
  try simp only [Act.put, putL]
  refine wpAnyH_done (by kernel_rfl) ?_ _
  by_cases h3 : y = 3
  · have h3b : (y != 3) = false := by simp [h3]
    have Hx := Lib.hid (show x = y by rw [← hx]; simp [h3])
    clear hx h3
    obtain ⟨c0, c1, c2, c3⟩ := cells4 (blk_on HK.out Hb1.out)
    have Hb := Lib.hid (below_trans Hb0.out Hb1.out)
    clear hlook hHeld HG Hb1
    go_wp2_with fail
    go_ret
    exact ⟨by rw [Hx.out]; rfl, Hb.out⟩
  · have h3b : (y != 3) = true := by simpa using h3
    by_cases h0 : cd = 0
    · have h0b : (cd != 0) = false := by simp [h0]
      have Hx := Lib.hid (show x = y by rw [← hx]; simp [h0])
      clear hx h3 h0
      obtain ⟨c0, c1, c2, c3⟩ := cells4 (blk_on HK.out Hb1.out)
      have Hb := Lib.hid (below_trans Hb0.out Hb1.out)
      clear hlook hHeld HG Hb1
      go_wp2_with fail
      go_ret
      exact ⟨by rw [Hx.out]; rfl, Hb.out⟩
    · have h0b : (cd != 0) = true := by simpa using h0
      have Hx := Lib.hid (show x = 0 by rw [← hx]; simp [h0, h3])
      clear hx h3 h0
      obtain ⟨c0, c1, c2, c3⟩ := cells4 (blk_on HK.out Hb1.out)
      have Hb := Lib.hid (below_trans Hb0.out Hb1.out)
      clear hlook hHeld HG Hb1
      go_wp2_with fail
      go_ret
      exact ⟨by rw [Hx.out]; rfl, Hb.out⟩
end Go.Proofs.YtheknmihnkennaaGreat

/-
  Maps of function values by a Proto, as packages packet and tuple make them: how the run puts in and looks up.
-/
namespace Go.Proofs.YtheknmihnkennaaGreat
set_option maxRecDepth 10000
open Go.RowKit
set_option linter.unusedSimpArgs false
set_option linter.unusedVariables false

theorem put_payload (w : World) (b : Nat) (es : Array MapEntry) (clock : Nat) (k : Int) (v : Value) (hb : w.heap[b]? = some (.map es clock)) (hf : Instr.findNow (.int .u8) (.int .u8 k) es.toList 0 = some none) :
    (Instr.mapUpdate 83 (.map (some b)) (.int .u8 k) v).run Tryz.prog w = .ok () (setO w b (.map (es.push ⟨.int .u8 k, v, clock⟩) (clock + 1))) := by
  simp [setO, Instr.mapUpdate, run_underlying Tryz.underlying83, MapKept.run_getObj_map hb, check_u8 k w, MapKept.run_findKey Tryz.underlying5 hf, MapKept.run_setObj_map _ hb, Result.andThen]
theorem info_payload : (Tryz.prog.info? 82).map (·.zero) = some (some .nilFunc) := by kernel_rfl
theorem zero_payload (w : World) : (zeroValue 82).run Tryz.prog w = .ok .nilFunc w := by
  have h := info_payload
  cases hi : Tryz.prog.info? 82 with
  | none => rw [hi] at h; simp at h
  | some i =>
    rw [hi] at h
    simp at h
    simp [zeroValue, typeInfo, hi, h, go_sem]
theorem look2_payload (w : World) (b : Nat) (es : Array MapEntry) (clock : Nat) (k : Int) (x : Value) (ok : Bool) (hb : w.heap[b]? = some (.map es clock))
    (hf : Instr.findNow (.int .u8) (.int .u8 k) es.toList 0 = some none ∧ x = .nilFunc ∧ ok = false ∨ ∃ i, Instr.findNow (.int .u8) (.int .u8 k) es.toList 0 = some (some (i, x)) ∧ ok = true) :
    (Instr.lookup 83 (.map (some b)) (.int .u8 k) true).run Tryz.prog w = .ok (.tuple #[x, .bool ok]) w := by
  rcases hf with ⟨hf, rfl, rfl⟩ | ⟨i, hf, rfl⟩
  · simp [Instr.lookup, run_underlying Tryz.underlying83, MapKept.run_getObj_map hb, check_u8 k w, MapKept.run_findKey Tryz.underlying5 hf, zero_payload, Result.andThen]
  · simp [Instr.lookup, run_underlying Tryz.underlying83, MapKept.run_getObj_map hb, check_u8 k w, MapKept.run_findKey Tryz.underlying5 hf, Result.andThen]
theorem look1_payload (w : World) (b : Nat) (es : Array MapEntry) (clock i : Nat) (k : Int) (x : Value) (hb : w.heap[b]? = some (.map es clock))
    (hf : Instr.findNow (.int .u8) (.int .u8 k) es.toList 0 = some (some (i, x))) :
    (Instr.lookup 83 (.map (some b)) (.int .u8 k) false).run Tryz.prog w = .ok x w := by
  simp [Instr.lookup, run_underlying Tryz.underlying83, MapKept.run_getObj_map hb, check_u8 k w, MapKept.run_findKey Tryz.underlying5 hf, Result.andThen]
theorem put_reading (w : World) (b : Nat) (es : Array MapEntry) (clock : Nat) (k : Int) (v : Value) (hb : w.heap[b]? = some (.map es clock)) (hf : Instr.findNow (.int .u8) (.int .u8 k) es.toList 0 = some none) :
    (Instr.mapUpdate 58 (.map (some b)) (.int .u8 k) v).run Tryz.prog w = .ok () (setO w b (.map (es.push ⟨.int .u8 k, v, clock⟩) (clock + 1))) := by
  simp [setO, Instr.mapUpdate, run_underlying Tryz.underlying58, MapKept.run_getObj_map hb, check_u8 k w, MapKept.run_findKey Tryz.underlying5 hf, MapKept.run_setObj_map _ hb, Result.andThen]
theorem info_reading : (Tryz.prog.info? 56).map (·.zero) = some (some .nilFunc) := by kernel_rfl
theorem zero_reading (w : World) : (zeroValue 56).run Tryz.prog w = .ok .nilFunc w := by
  have h := info_reading
  cases hi : Tryz.prog.info? 56 with
  | none => rw [hi] at h; simp at h
  | some i =>
    rw [hi] at h
    simp at h
    simp [zeroValue, typeInfo, hi, h, go_sem]
theorem look2_reading (w : World) (b : Nat) (es : Array MapEntry) (clock : Nat) (k : Int) (x : Value) (ok : Bool) (hb : w.heap[b]? = some (.map es clock))
    (hf : Instr.findNow (.int .u8) (.int .u8 k) es.toList 0 = some none ∧ x = .nilFunc ∧ ok = false ∨ ∃ i, Instr.findNow (.int .u8) (.int .u8 k) es.toList 0 = some (some (i, x)) ∧ ok = true) :
    (Instr.lookup 58 (.map (some b)) (.int .u8 k) true).run Tryz.prog w = .ok (.tuple #[x, .bool ok]) w := by
  rcases hf with ⟨hf, rfl, rfl⟩ | ⟨i, hf, rfl⟩
  · simp [Instr.lookup, run_underlying Tryz.underlying58, MapKept.run_getObj_map hb, check_u8 k w, MapKept.run_findKey Tryz.underlying5 hf, zero_reading, Result.andThen]
  · simp [Instr.lookup, run_underlying Tryz.underlying58, MapKept.run_getObj_map hb, check_u8 k w, MapKept.run_findKey Tryz.underlying5 hf, Result.andThen]
theorem put_ports (w : World) (b : Nat) (es : Array MapEntry) (clock : Nat) (k : Int) (v : Value) (hb : w.heap[b]? = some (.map es clock)) (hf : Instr.findNow (.int .u8) (.int .u8 k) es.toList 0 = some none) :
    (Instr.mapUpdate 73 (.map (some b)) (.int .u8 k) v).run Tryz.prog w = .ok () (setO w b (.map (es.push ⟨.int .u8 k, v, clock⟩) (clock + 1))) := by
  simp [setO, Instr.mapUpdate, run_underlying Tryz.underlying73, MapKept.run_getObj_map hb, check_u8 k w, MapKept.run_findKey Tryz.underlying5 hf, MapKept.run_setObj_map _ hb, Result.andThen]
theorem info_ports : (Tryz.prog.info? 71).map (·.zero) = some (some .nilFunc) := by kernel_rfl
theorem zero_ports (w : World) : (zeroValue 71).run Tryz.prog w = .ok .nilFunc w := by
  have h := info_ports
  cases hi : Tryz.prog.info? 71 with
  | none => rw [hi] at h; simp at h
  | some i =>
    rw [hi] at h
    simp at h
    simp [zeroValue, typeInfo, hi, h, go_sem]
theorem look2_ports (w : World) (b : Nat) (es : Array MapEntry) (clock : Nat) (k : Int) (x : Value) (ok : Bool) (hb : w.heap[b]? = some (.map es clock))
    (hf : Instr.findNow (.int .u8) (.int .u8 k) es.toList 0 = some none ∧ x = .nilFunc ∧ ok = false ∨ ∃ i, Instr.findNow (.int .u8) (.int .u8 k) es.toList 0 = some (some (i, x)) ∧ ok = true) :
    (Instr.lookup 73 (.map (some b)) (.int .u8 k) true).run Tryz.prog w = .ok (.tuple #[x, .bool ok]) w := by
  rcases hf with ⟨hf, rfl, rfl⟩ | ⟨i, hf, rfl⟩
  · simp [Instr.lookup, run_underlying Tryz.underlying73, MapKept.run_getObj_map hb, check_u8 k w, MapKept.run_findKey Tryz.underlying5 hf, zero_ports, Result.andThen]
  · simp [Instr.lookup, run_underlying Tryz.underlying73, MapKept.run_getObj_map hb, check_u8 k w, MapKept.run_findKey Tryz.underlying5 hf, Result.andThen]
/-- A map of three by the Protos. -/
def threeO (f6 f17 f1 : Value) : Obj := .map #[⟨.int .u8 6, f6, 0⟩, ⟨.int .u8 17, f17, 1⟩, ⟨.int .u8 1, f1, 2⟩] 3
theorem three_6 (f6 f17 f1 : Value) : Instr.findNow (.int .u8) (.int .u8 6) [⟨.int .u8 6, f6, 0⟩, ⟨.int .u8 17, f17, 1⟩, ⟨.int .u8 1, f1, 2⟩] 0 = some (some (0, f6)) := rfl
theorem three_17 (f6 f17 f1 : Value) : Instr.findNow (.int .u8) (.int .u8 17) [⟨.int .u8 6, f6, 0⟩, ⟨.int .u8 17, f17, 1⟩, ⟨.int .u8 1, f1, 2⟩] 0 = some (some (1, f17)) := rfl
theorem three_1 (f6 f17 f1 : Value) : Instr.findNow (.int .u8) (.int .u8 1) [⟨.int .u8 6, f6, 0⟩, ⟨.int .u8 17, f17, 1⟩, ⟨.int .u8 1, f1, 2⟩] 0 = some (some (2, f1)) := rfl
theorem three_no (f6 f17 f1 : Value) (k : Int) (h6 : k ≠ 6) (h17 : k ≠ 17) (h1 : k ≠ 1) : Instr.findNow (.int .u8) (.int .u8 k) [⟨.int .u8 6, f6, 0⟩, ⟨.int .u8 17, f17, 1⟩, ⟨.int .u8 1, f1, 2⟩] 0 = some none :=
  findU8 _ _ _ (by simp [h6, h17, h1])
/-- What stands at a Proto. -/
def atP (f6 f17 f1 : Value) (k : Int) : Value := if k = 6 then f6 else if k = 17 then f17 else if k = 1 then f1 else .nilFunc
def knownP (k : Int) : Bool := decide (k = 6) || (decide (k = 17) || decide (k = 1))
theorem look3_payload (w : World) (g : Nat) (f6 f17 f1 : Value) (k : Int) (x : Value) (ok : Bool) (hg : w.heap[g]? = some (threeO f6 f17 f1)) (hx : atP f6 f17 f1 k = x) (hk : knownP k = ok) :
    (Instr.lookup 83 (.map (some g)) (.int .u8 k) true).run Tryz.prog w = .ok (.tuple #[x, .bool ok]) w := by
  subst hx; subst hk
  refine look2_payload w g _ _ k _ _ hg ?_
  by_cases h6 : k = 6
  · subst h6; exact .inr ⟨0, three_6 _ _ _, rfl⟩
  by_cases h17 : k = 17
  · subst h17; exact .inr ⟨1, three_17 _ _ _, rfl⟩
  by_cases h1 : k = 1
  · subst h1; exact .inr ⟨2, three_1 _ _ _, rfl⟩
  exact .inl ⟨three_no _ _ _ _ h6 h17 h1, by unfold atP; rw [if_neg h6, if_neg h17, if_neg h1], by simp [knownP, h6, h17, h1]⟩
theorem look3_reading (w : World) (g : Nat) (f6 f17 f1 : Value) (k : Int) (x : Value) (ok : Bool) (hg : w.heap[g]? = some (threeO f6 f17 f1)) (hx : atP f6 f17 f1 k = x) (hk : knownP k = ok) :
    (Instr.lookup 58 (.map (some g)) (.int .u8 k) true).run Tryz.prog w = .ok (.tuple #[x, .bool ok]) w := by
  subst hx; subst hk
  refine look2_reading w g _ _ k _ _ hg ?_
  by_cases h6 : k = 6
  · subst h6; exact .inr ⟨0, three_6 _ _ _, rfl⟩
  by_cases h17 : k = 17
  · subst h17; exact .inr ⟨1, three_17 _ _ _, rfl⟩
  by_cases h1 : k = 1
  · subst h1; exact .inr ⟨2, three_1 _ _ _, rfl⟩
  exact .inl ⟨three_no _ _ _ _ h6 h17 h1, by unfold atP; rw [if_neg h6, if_neg h17, if_neg h1], by simp [knownP, h6, h17, h1]⟩
theorem look3_ports (w : World) (g : Nat) (f6 f17 f1 : Value) (k : Int) (x : Value) (ok : Bool) (hg : w.heap[g]? = some (threeO f6 f17 f1)) (hx : atP f6 f17 f1 k = x) (hk : knownP k = ok) :
    (Instr.lookup 73 (.map (some g)) (.int .u8 k) true).run Tryz.prog w = .ok (.tuple #[x, .bool ok]) w := by
  subst hx; subst hk
  refine look2_ports w g _ _ k _ _ hg ?_
  by_cases h6 : k = 6
  · subst h6; exact .inr ⟨0, three_6 _ _ _, rfl⟩
  by_cases h17 : k = 17
  · subst h17; exact .inr ⟨1, three_17 _ _ _, rfl⟩
  by_cases h1 : k = 1
  · subst h1; exact .inr ⟨2, three_1 _ _ _, rfl⟩
  exact .inl ⟨three_no _ _ _ _ h6 h17 h1, by unfold atP; rw [if_neg h6, if_neg h17, if_neg h1], by simp [knownP, h6, h17, h1]⟩
theorem at_payload (w : World) (g : Nat) (f6 f17 f1 : Value) (k : Int) (x : Value) (hg : w.heap[g]? = some (threeO f6 f17 f1)) (hx : atP f6 f17 f1 k = x) (hk : knownP k = true) :
    (Instr.lookup 83 (.map (some g)) (.int .u8 k) false).run Tryz.prog w = .ok x w := by
  subst hx
  unfold knownP at hk
  simp at hk
  rcases hk with rfl | rfl | rfl
  · exact look1_payload w g _ _ _ 6 _ hg (three_6 _ _ _)
  · exact look1_payload w g _ _ _ 17 _ hg (three_17 _ _ _)
  · exact look1_payload w g _ _ _ 1 _ hg (three_1 _ _ _)

theorem runs_payload {W w0 : World} {g : Nat} (f6 f17 f1 : Value) (b0 : Below W.heap.size W w0) (hg : W.heap.size ≤ g) (k0 : w0.heap[g]? = some (.map #[] 0)) :
    ∃ w1 w2 w3, (Instr.mapUpdate 83 (.map (some g)) (.int .u8 6) f6).run Tryz.prog w0 = .ok () w1 ∧ (Instr.mapUpdate 83 (.map (some g)) (.int .u8 17) f17).run Tryz.prog w1 = .ok () w2 ∧
      (Instr.mapUpdate 83 (.map (some g)) (.int .u8 1) f1).run Tryz.prog w2 = .ok () w3 ∧ w3.heap[g]? = some (threeO f6 f17 f1) ∧ Below W.heap.size W w3 := by
  have r1 := put_payload w0 g _ _ 6 f6 k0 (findU8 _ _ _ (by simp))
  have k1 := setO_at (.map (#[].push ⟨.int .u8 6, f6, 0⟩) 1) k0
  have b1 := setO_below (o := .map (#[].push ⟨.int .u8 6, f6, 0⟩) 1) b0 hg
  simp only [List.push_toArray, List.nil_append, List.cons_append, Nat.reduceAdd] at r1 k1 b1
  obtain ⟨w1, e1⟩ : ∃ v, setO w0 g (.map #[⟨.int .u8 6, f6, 0⟩] 1) = v := ⟨_, rfl⟩
  rw [e1] at r1 k1 b1
  clear e1
  have r2 := put_payload w1 g _ _ 17 f17 k1 (findU8 _ _ _ (by simp))
  have k2 := setO_at (.map (#[⟨.int .u8 6, f6, 0⟩].push ⟨.int .u8 17, f17, 1⟩) 2) k1
  have b2 := setO_below (o := .map (#[⟨.int .u8 6, f6, 0⟩].push ⟨.int .u8 17, f17, 1⟩) 2) b1 hg
  simp only [List.push_toArray, List.nil_append, List.cons_append, Nat.reduceAdd] at r2 k2 b2
  obtain ⟨w2, e2⟩ : ∃ v, setO w1 g (.map #[⟨.int .u8 6, f6, 0⟩, ⟨.int .u8 17, f17, 1⟩] 2) = v := ⟨_, rfl⟩
  rw [e2] at r2 k2 b2
  clear e2
  have r3 := put_payload w2 g _ _ 1 f1 k2 (findU8 _ _ _ (by simp))
  have k3 := setO_at (.map (#[⟨.int .u8 6, f6, 0⟩, ⟨.int .u8 17, f17, 1⟩].push ⟨.int .u8 1, f1, 2⟩) 3) k2
  have b3 := setO_below (o := .map (#[⟨.int .u8 6, f6, 0⟩, ⟨.int .u8 17, f17, 1⟩].push ⟨.int .u8 1, f1, 2⟩) 3) b2 hg
  simp only [List.push_toArray, List.nil_append, List.cons_append, Nat.reduceAdd] at r3 k3 b3
  exact ⟨w1, w2, _, r1, r2, r3, k3, b3⟩
theorem runs_reading {W w0 : World} {g : Nat} (f6 f17 f1 : Value) (b0 : Below W.heap.size W w0) (hg : W.heap.size ≤ g) (k0 : w0.heap[g]? = some (.map #[] 0)) :
    ∃ w1 w2 w3, (Instr.mapUpdate 58 (.map (some g)) (.int .u8 6) f6).run Tryz.prog w0 = .ok () w1 ∧ (Instr.mapUpdate 58 (.map (some g)) (.int .u8 17) f17).run Tryz.prog w1 = .ok () w2 ∧
      (Instr.mapUpdate 58 (.map (some g)) (.int .u8 1) f1).run Tryz.prog w2 = .ok () w3 ∧ w3.heap[g]? = some (threeO f6 f17 f1) ∧ Below W.heap.size W w3 := by
  have r1 := put_reading w0 g _ _ 6 f6 k0 (findU8 _ _ _ (by simp))
  have k1 := setO_at (.map (#[].push ⟨.int .u8 6, f6, 0⟩) 1) k0
  have b1 := setO_below (o := .map (#[].push ⟨.int .u8 6, f6, 0⟩) 1) b0 hg
  simp only [List.push_toArray, List.nil_append, List.cons_append, Nat.reduceAdd] at r1 k1 b1
  obtain ⟨w1, e1⟩ : ∃ v, setO w0 g (.map #[⟨.int .u8 6, f6, 0⟩] 1) = v := ⟨_, rfl⟩
  rw [e1] at r1 k1 b1
  clear e1
  have r2 := put_reading w1 g _ _ 17 f17 k1 (findU8 _ _ _ (by simp))
  have k2 := setO_at (.map (#[⟨.int .u8 6, f6, 0⟩].push ⟨.int .u8 17, f17, 1⟩) 2) k1
  have b2 := setO_below (o := .map (#[⟨.int .u8 6, f6, 0⟩].push ⟨.int .u8 17, f17, 1⟩) 2) b1 hg
  simp only [List.push_toArray, List.nil_append, List.cons_append, Nat.reduceAdd] at r2 k2 b2
  obtain ⟨w2, e2⟩ : ∃ v, setO w1 g (.map #[⟨.int .u8 6, f6, 0⟩, ⟨.int .u8 17, f17, 1⟩] 2) = v := ⟨_, rfl⟩
  rw [e2] at r2 k2 b2
  clear e2
  have r3 := put_reading w2 g _ _ 1 f1 k2 (findU8 _ _ _ (by simp))
  have k3 := setO_at (.map (#[⟨.int .u8 6, f6, 0⟩, ⟨.int .u8 17, f17, 1⟩].push ⟨.int .u8 1, f1, 2⟩) 3) k2
  have b3 := setO_below (o := .map (#[⟨.int .u8 6, f6, 0⟩, ⟨.int .u8 17, f17, 1⟩].push ⟨.int .u8 1, f1, 2⟩) 3) b2 hg
  simp only [List.push_toArray, List.nil_append, List.cons_append, Nat.reduceAdd] at r3 k3 b3
  exact ⟨w1, w2, _, r1, r2, r3, k3, b3⟩
theorem runs_ports {W w0 : World} {g : Nat} (f6 f17 f1 : Value) (b0 : Below W.heap.size W w0) (hg : W.heap.size ≤ g) (k0 : w0.heap[g]? = some (.map #[] 0)) :
    ∃ w1 w2 w3, (Instr.mapUpdate 73 (.map (some g)) (.int .u8 6) f6).run Tryz.prog w0 = .ok () w1 ∧ (Instr.mapUpdate 73 (.map (some g)) (.int .u8 17) f17).run Tryz.prog w1 = .ok () w2 ∧
      (Instr.mapUpdate 73 (.map (some g)) (.int .u8 1) f1).run Tryz.prog w2 = .ok () w3 ∧ w3.heap[g]? = some (threeO f6 f17 f1) ∧ Below W.heap.size W w3 := by
  have r1 := put_ports w0 g _ _ 6 f6 k0 (findU8 _ _ _ (by simp))
  have k1 := setO_at (.map (#[].push ⟨.int .u8 6, f6, 0⟩) 1) k0
  have b1 := setO_below (o := .map (#[].push ⟨.int .u8 6, f6, 0⟩) 1) b0 hg
  simp only [List.push_toArray, List.nil_append, List.cons_append, Nat.reduceAdd] at r1 k1 b1
  obtain ⟨w1, e1⟩ : ∃ v, setO w0 g (.map #[⟨.int .u8 6, f6, 0⟩] 1) = v := ⟨_, rfl⟩
  rw [e1] at r1 k1 b1
  clear e1
  have r2 := put_ports w1 g _ _ 17 f17 k1 (findU8 _ _ _ (by simp))
  have k2 := setO_at (.map (#[⟨.int .u8 6, f6, 0⟩].push ⟨.int .u8 17, f17, 1⟩) 2) k1
  have b2 := setO_below (o := .map (#[⟨.int .u8 6, f6, 0⟩].push ⟨.int .u8 17, f17, 1⟩) 2) b1 hg
  simp only [List.push_toArray, List.nil_append, List.cons_append, Nat.reduceAdd] at r2 k2 b2
  obtain ⟨w2, e2⟩ : ∃ v, setO w1 g (.map #[⟨.int .u8 6, f6, 0⟩, ⟨.int .u8 17, f17, 1⟩] 2) = v := ⟨_, rfl⟩
  rw [e2] at r2 k2 b2
  clear e2
  have r3 := put_ports w2 g _ _ 1 f1 k2 (findU8 _ _ _ (by simp))
  have k3 := setO_at (.map (#[⟨.int .u8 6, f6, 0⟩, ⟨.int .u8 17, f17, 1⟩].push ⟨.int .u8 1, f1, 2⟩) 3) k2
  have b3 := setO_below (o := .map (#[⟨.int .u8 6, f6, 0⟩, ⟨.int .u8 17, f17, 1⟩].push ⟨.int .u8 1, f1, 2⟩) 3) b2 hg
  simp only [List.push_toArray, List.nil_append, List.cons_append, Nat.reduceAdd] at r3 k3 b3
  exact ⟨w1, w2, _, r1, r2, r3, k3, b3⟩
end Go.Proofs.YtheknmihnkennaaGreat

/-
  Heads of packets (api.Head) as numbers. No function of the program.
-/
namespace Go.Proofs.YtheknmihnkennaaGreat
set_option maxRecDepth 10000
open Go.RowKit

structure Hd where
  «to» : Int
  id : Int
  df : Bool
  tt : Int
  pr : Int
  sr : Int
  ds : Int
  o : List Int
structure HdNum (h : Hd) : Prop where
  «to» : 0 ≤ h.to ∧ h.to < 256
  id : 0 ≤ h.id ∧ h.id < 65536
  tt : 0 ≤ h.tt ∧ h.tt < 256
  pr : 0 ≤ h.pr ∧ h.pr < 256
  sr : 0 ≤ h.sr ∧ h.sr < 4294967296
  ds : 0 ≤ h.ds ∧ h.ds < 4294967296
def hdSame (h h' : Hd) : Bool := decide (h.to = h'.to) && (decide (h.id = h'.id) && (decide (h.df = h'.df) && (decide (h.tt = h'.tt) && (decide (h.pr = h'.pr) && (decide (h.sr = h'.sr) && (decide (h.ds = h'.ds) && decide (h.o = h'.o)))))))
theorem hdSame_self (h : Hd) : hdSame h h = true := by simp [hdSame]
/-- A packet of this head. -/
def hdB (h : Hd) (payload : List Int) : List Int := packetL h.to h.id h.df h.tt h.pr h.sr h.ds h.o payload
end Go.Proofs.YtheknmihnkennaaGreat

/-
  Slices of options ([]api.Opt): what they hold ('RdO'), what it reads as ('Reads'), one of the call's own ('OwnO'), append, one that comes in. No function of the program.
-/
namespace Go.Proofs.YtheknmihnkennaaGreat
set_option maxRecDepth 10000
open Go.ChangeShapes Go.WideShapes Go.ChangeAt Go.RowKit Go.Deep

/-- An option's two cells. -/
structure OptV where
  kind : Int
  A : Option Addr
  n : Nat
  c : Nat
def OptV.none : OptV := ⟨0, Option.none, 0, 0⟩
def optCells (os : List OptV) : List Value := os.flatMap fun o => [.int .u8 o.kind, .slice o.A o.n o.c]
theorem optCells_len (os : List OptV) : (optCells os).length = os.length * 2 := by
  induction os with
  | nil => rfl
  | cons o os ih => simp [optCells] at ih ⊢; omega
theorem optCells_app (a b : List OptV) : optCells (a ++ b) = optCells a ++ optCells b := by simp [optCells]
theorem optCells_at (os : List OptV) (i : Nat) (h : i < os.length) : (optCells os)[i * 2]? = some (.int .u8 (os.getD i .none).kind) ∧ (optCells os)[i * 2 + 1]? = some (.slice (os.getD i .none).A (os.getD i .none).n (os.getD i .none).c) := by
  induction os generalizing i with
  | nil => simp at h
  | cons o os ih =>
    cases i with
    | zero => simp [optCells]
    | succ i =>
      have := ih i (by simpa using h)
      have e : (i + 1) * 2 = i * 2 + 1 + 1 := by omega
      rw [e]
      simpa [optCells] using this
theorem optCells_one (os : List OptV) : ∀ u ∈ optCells os, u.oneCell' = true := by
  intro u hu
  simp [optCells] at hu
  obtain ⟨o, _, rfl | rfl⟩ := hu <;> rfl

/-- The slice '.slice A n _' holds the options' cells os, in memory that is there. -/
structure RdO (w : World) (A : Option Addr) (n : Nat) (os : List OptV) : Prop where
  len : os.length = n
  at_ : 0 < n → ∃ b o, A = some ⟨b, o, Option.none⟩ ∧ b < w.heap.size ∧ ∀ i, i < n → w.cell? ⟨b, o + i * 2, Option.none⟩ = some (.int .u8 (os.getD i .none).kind) ∧ w.cell? ⟨b, o + (i * 2 + 1), Option.none⟩ = some (.slice (os.getD i .none).A (os.getD i .none).n (os.getD i .none).c)
theorem RdO.nil (w : World) (A : Option Addr) : RdO w A 0 [] := ⟨rfl, fun h => absurd h (by omega)⟩
theorem RdO.below {w w' : World} {A : Option Addr} {n : Nat} {os : List OptV} (h : RdO w A n os) (hb : Below w.heap.size w w') : RdO w' A n os :=
  ⟨h.len, fun hn => by
    obtain ⟨b, o, e, hlt, hc⟩ := h.at_ hn
    exact ⟨b, o, e, Nat.lt_of_lt_of_le hlt hb.size, fun i hi => ⟨by rw [hb.cell (p := ⟨b, o + i * 2, Option.none⟩) hlt]; exact (hc i hi).1, by rw [hb.cell (p := ⟨b, o + (i * 2 + 1), Option.none⟩) hlt]; exact (hc i hi).2⟩⟩⟩
theorem RdO.drew {w : World} {A : Option Addr} {n : Nat} {os : List OptV} (h : RdO w A n os) : RdO w.drew A n os := ⟨h.len, h.at_⟩
theorem getD_take {α : Type} (l : List α) (i k : Nat) (d : α) (h : i < k) : (l.take k).getD i d = l.getD i d := by simp [List.getD, List.getElem?_take_of_lt h]
theorem RdO.take {w : World} {A : Option Addr} {n k : Nat} {os : List OptV} (h : RdO w A n os) (hk : k ≤ n) : RdO w A k (os.take k) := by
  refine ⟨by rw [List.length_take, h.len]; omega, fun hn => ?_⟩
  obtain ⟨b, o, e, hlt, hc⟩ := h.at_ (by omega)
  exact ⟨b, o, e, hlt, fun i hi => by rw [getD_take _ _ _ _ hi]; exact hc i (by omega)⟩

/-- One option's address, and what lies there. -/
theorem RdO.index {w : World} {A : Option Addr} {n c : Nat} {os : List OptV} (h : RdO w A n os) {j : Nat} (hj : j < n) :
    ∃ b p, (∀ W : World, (Instr.indexAt 27 (.slice A n c) (.int .i64 (j : Int))).run Tryz.prog W = .ok (.pointer (some ⟨b, p, Option.none⟩)) W) ∧ b < w.heap.size ∧
      w.cell? ⟨b, p, Option.none⟩ = some (.int .u8 (os.getD j .none).kind) ∧ w.cell? ⟨b, p + 1, Option.none⟩ = some (.slice (os.getD j .none).A (os.getD j .none).n (os.getD j .none).c) := by
  obtain ⟨b, o, rfl, hb, hc⟩ := h.at_ (by omega)
  have h0 : (0 : Int) ≤ (j : Int) := by omega
  have h1 : (j : Int) < (n : Int) := by omega
  exact ⟨b, o + j * 2, fun W => by go_simp, hb, (hc j hj).1, by simpa [Nat.add_assoc] using (hc j hj).2⟩

/-- An option reads as a kind and bytes. -/
def OptAt (w : World) (o : OptV) (l : Int × List Int) : Prop := o.kind = l.1 ∧ (0 ≤ o.kind ∧ o.kind < 256) ∧ o.n ≤ o.c ∧ o.c ≤ maxLen ∧ Rd w o.A o.n l.2
theorem OptAt.below {w w' : World} {o : OptV} {l : Int × List Int} (h : OptAt w o l) (hb : Below w.heap.size w w') : OptAt w' o l := ⟨h.1, h.2.1, h.2.2.1, h.2.2.2.1, h.2.2.2.2.below hb⟩
def Reads (w : World) : List OptV → List (Int × List Int) → Prop
  | [], [] => True
  | o :: os, l :: ls => OptAt w o l ∧ Reads w os ls
  | _, _ => False
theorem Reads.len {w : World} : ∀ {os : List OptV} {ls : List (Int × List Int)}, Reads w os ls → os.length = ls.length
  | [], [], _ => rfl
  | _ :: _, _ :: _, h => by simp [Reads.len h.2]
theorem Reads.mono {w w' : World} (hm : ∀ o l, OptAt w o l → OptAt w' o l) : ∀ {os : List OptV} {ls : List (Int × List Int)}, Reads w os ls → Reads w' os ls
  | [], [], _ => trivial
  | _ :: _, _ :: _, h => ⟨hm _ _ h.1, Reads.mono hm h.2⟩
theorem Reads.below {w w' : World} {os : List OptV} {ls : List (Int × List Int)} (h : Reads w os ls) (hb : Below w.heap.size w w') : Reads w' os ls := h.mono fun _ _ h => h.below hb
theorem Reads.app {w : World} : ∀ {a b : List OptV} {k l : List (Int × List Int)}, Reads w a k → Reads w b l → Reads w (a ++ b) (k ++ l)
  | [], _, [], _, _, h => h
  | _ :: _, _, _ :: _, _, h, h' => ⟨h.1, Reads.app h.2 h'⟩
theorem Reads.take {w : World} : ∀ {os : List OptV} {ls : List (Int × List Int)} (k : Nat), Reads w os ls → Reads w (os.take k) (ls.take k)
  | _, _, 0, _ => by simp [Reads]
  | [], [], _ + 1, _ => trivial
  | _ :: _, _ :: _, k + 1, h => ⟨h.1, Reads.take k h.2⟩
theorem Reads.get {w : World} : ∀ {os : List OptV} {ls : List (Int × List Int)}, Reads w os ls → ∀ i, i < os.length → OptAt w (os.getD i .none) (ls.getD i (0, []))
  | [], [], _, _, hi => by simp at hi
  | _ :: _, _ :: _, h, 0, _ => by simpa using h.1
  | _ :: os, _ :: _, h, i + 1, hi => by simpa using Reads.get h.2 i (by simpa using hi)

theorem infoOpt : (Tryz.prog.info? 142).map (fun i => (i.zero, i.size, i.bytes)) = some (some (.agg #[.int .u8 0, .slice Option.none 0 0]), 2, 32) := by kernel_rfl
/-- '.slice A n c' is a slice of options that the call made, from block B on: its cells are os. -/
def OwnO (w : World) (B : Nat) (A : Option Addr) (n c : Nat) (os : List OptV) : Prop := w.ownsRow B 142 2 (.slice A n c) n (optCells os)
theorem OwnO.len {w : World} {B : Nat} {A : Option Addr} {n c : Nat} {os : List OptV} (h : OwnO w B A n c os) : os.length = n := by
  have := h.1
  rw [optCells_len] at this
  omega
theorem OwnO.cap {w : World} {B : Nat} {A : Option Addr} {n c : Nat} {os : List OptV} (h : OwnO w B A n c os) : n ≤ c := by
  rcases h.2 with ⟨e, rfl⟩ | ⟨g, cap, cur, e, _, _, hnc, _⟩
  · exact Nat.zero_le _
  · injection e with _ _ e3
    omega
theorem OwnO.capMax {w : World} {B : Nat} {A : Option Addr} {n c : Nat} {os : List OptV} (h : OwnO w B A n c os) : c ≤ maxLen := by
  rcases h.2 with ⟨e, _⟩ | ⟨g, cap, cur, e, _, _, _, hcm, _⟩
  · injection e with _ _ e3; subst e3; simp
  · injection e with _ _ e3; subst e3; exact hcm
theorem OwnO.nil (w : World) (B : Nat) : OwnO w B Option.none 0 0 [] := World.ownsRow_nil w B 142 2
theorem OwnO.made {w : World} {B g cap : Nat} {cur : Array Value} (hg : w.heap[g]? = some (.cells cur 142 (0, 0))) (hB : B ≤ g) (hm : cap ≤ maxLen) (hc : cur.size = cap * 2) : OwnO w B (some ⟨g, 0, Option.none⟩) 0 cap [] :=
  ⟨rfl, .inr ⟨g, cap, cur, rfl, hB, hg, Nat.zero_le _, hm, hc, by simp [optCells]⟩⟩
theorem OwnO.rd {w : World} {B : Nat} {A : Option Addr} {n c : Nat} {os : List OptV} (h : OwnO w B A n c os) : RdO w A n os := by
  refine ⟨h.len, fun hn => ?_⟩
  rcases id h.2 with ⟨e, h0⟩ | ⟨g, cap, cur, e, _, hg, _⟩
  · omega
  · injection e with e1 e2 e3
    subst e1
    refine ⟨g, 0, rfl, lt_of_block hg, fun i hi => ?_⟩
    have hlen := h.len
    have hat := optCells_at os i (by omega)
    rw [Nat.zero_add, Nat.zero_add]
    have h' : w.ownsRow B 142 2 (.slice (some ⟨g, 0, Option.none⟩) n c) n (optCells os) := h
    exact ⟨by rw [World.ownsRow.cellAt h' _ (by omega)]; exact hat.1, by rw [World.ownsRow.cellAt h' _ (by omega)]; exact hat.2⟩
theorem OwnO.mono {w : World} {B B' : Nat} {A : Option Addr} {n c : Nat} {os : List OptV} (h : OwnO w B A n c os) (hB : B' ≤ B) : OwnO w B' A n c os := by
  refine ⟨h.1, ?_⟩
  rcases h.2 with h0 | ⟨g, cap, cur, e, hg, r⟩
  · exact .inl h0
  · exact .inr ⟨g, cap, cur, e, Nat.le_trans hB hg, r⟩
theorem OwnO.but {S : Nat → Prop} {w w' : World} {B : Nat} {A : Option Addr} {n c : Nat} {os : List OptV} (h : OwnO w B A n c os) (hb : But S w w') (hS : ∀ g, A = some ⟨g, 0, Option.none⟩ → ¬ S g) : OwnO w' B A n c os := by
  refine ⟨h.1, ?_⟩
  rcases h.2 with h0 | ⟨g, cap, cur, e, hB, hc, hrest⟩
  · exact .inl h0
  · exact .inr ⟨g, cap, cur, e, hB, hb.blk hc (hS g (by injection e)), hrest⟩
theorem OwnO.on {w w' : World} {B : Nat} {A : Option Addr} {n c : Nat} {os : List OptV} (h : OwnO w B A n c os) (hb : Below w.heap.size w w') : OwnO w' B A n c os := h.but (But.of (S := fun _ => False) hb) (fun _ _ x => x)
theorem OwnO.drew {w : World} {B : Nat} {A : Option Addr} {n c : Nat} {os : List OptV} (h : OwnO w B A n c os) : OwnO w.drew B A n c os := h
theorem OwnO.addr {w : World} {B : Nat} {A : Option Addr} {n c : Nat} {os : List OptV} (h : OwnO w B A n c os) (hn : 0 < n) : ∃ g, A = some ⟨g, 0, Option.none⟩ ∧ B ≤ g ∧ g < w.heap.size := by
  rcases h.2 with ⟨_, rfl⟩ | ⟨g, cap, cur, e, hB, hg, _⟩
  · omega
  · injection e with e1 _ _
    exact ⟨g, e1, hB, lt_of_block hg⟩

theorem optCells_set (os : List OptV) (j : Nat) (A : Option Addr) (n c : Nat) (h : j < os.length) : (optCells os).set (j * 2 + 1) (.slice A n c) = optCells (os.set j ⟨(os.getD j .none).kind, A, n, c⟩) := by
  induction os generalizing j with
  | nil => simp at h
  | cons o os ih =>
    cases j with
    | zero => simp [optCells]
    | succ j =>
      have := ih j (by simpa using h)
      have e : (j + 1) * 2 = j * 2 + 1 + 1 := by omega
      rw [e]
      simpa [optCells] using this
theorem OwnO.set_ {w : World} {B g n c : Nat} {os : List OptV} (h : OwnO w B (some ⟨g, 0, Option.none⟩) n c os) (j : Nat) (hj : j < n) (A : Option Addr) (m k : Nat) : OwnO (w.setCell ⟨g, j * 2 + 1, Option.none⟩ (.slice A m k)) B (some ⟨g, 0, Option.none⟩) n c (os.set j ⟨(os.getD j .none).kind, A, m, k⟩) := by
  have := (World.ownsRow.stored h (j * 2 + 1) (.slice A m k)).1
  rw [optCells_set os j A m k (by have := h.len; omega)] at this
  exact this

theorem OwnO.form {w : World} {B : Nat} {v : Value} {n : Nat} {os : List OptV} (h : w.ownsRow B 142 2 v n (optCells os)) : ∃ A c, v = .slice A n c ∧ OwnO w B A n c os := by
  rcases id h.2 with ⟨rfl, rfl⟩ | ⟨g, cap, cur, rfl, _⟩
  · exact ⟨Option.none, 0, rfl, h⟩
  · exact ⟨_, _, rfl, h⟩

/-- append of options onto a row of the call's own. -/
theorem appO_run (w : World) (ty : TypeId) (B : Nat) (A A' : Option Addr) (n c m c' : Nat) (os os' : List OptV) (h : OwnO w B A n c os) (hr : RdO w A' m os') (hs : (n + m) * 32 ≤ 140737488355328) (hB : B ≤ w.heap.size) :
    ∃ A2 c2 w', (Builtin.append_ #[27, 27] ty #[.slice A n c, .slice A' m c']).run Tryz.prog w = .ok (.slice A2 (n + m) c2) w' ∧ OwnO w' B A2 (n + m) c2 (os ++ os') ∧ w.grownBy w' (Value.slice A n c).ownBlock ∧ Below B w w' ∧
      ((Value.slice A2 (n + m) c2).ownBlock = (Value.slice A n c).ownBlock ∨ (Value.slice A2 (n + m) c2).ownBlock = some w.heap.size) := by
  obtain ⟨i0, hi, hz0, hz1, hz2⟩ := info_parts infoOpt
  have key : ∀ (a : Addr), A' = some a → (∀ j u, (optCells os')[j]? = some u → w.cell? (a.add j) = some u) →
      ∃ A2 c2 w', (Builtin.append_ #[27, 27] ty #[.slice A n c, .slice A' m c']).run Tryz.prog w = .ok (.slice A2 (n + m) c2) w' ∧ OwnO w' B A2 (n + m) c2 (os ++ os') ∧ w.grownBy w' (Value.slice A n c).ownBlock ∧ Below B w w' ∧
        ((Value.slice A2 (n + m) c2).ownBlock = (Value.slice A n c).ownBlock ∨ (Value.slice A2 (n + m) c2).ownBlock = some w.heap.size) := by
    rintro a rfl hnews
    obtain ⟨v', w', hrun, hown, hg, _, hat⟩ := run_append_own_at (P := Tryz.prog) w B 27 ty 142 i0 (.agg #[.int .u8 0, .slice Option.none 0 0]) 2 32 Tryz.underlying27 hi hz0 hz1 hz2 rfl (by omega) (.slice A n c) n _ h a m c' (optCells os')
      (by rw [optCells_len, hr.len]) hnews (optCells_one os') (by unfold maxLen; omega) hs hB
    rw [← optCells_app] at hown
    obtain ⟨A2, c2, rfl, ho⟩ := OwnO.form hown
    refine ⟨A2, c2, w', hrun, ho, hg, ⟨hg.os, hg.tape, hg.output, hg.size, fun k hk => hg.block k (by omega) (fun e => ?_)⟩, hat⟩
    rcases h.2 with ⟨e1, _⟩ | ⟨g, cap, cur, e1, hBg, _⟩
    · injection e1 with e1 e2 e3
      subst e1
      simp [Value.ownBlock] at e
    · injection e1 with e1 e2 e3
      subst e1
      simp [Value.ownBlock] at e
      omega
  rcases Nat.eq_zero_or_pos m with h0 | h0
  · subst h0
    have hl : os' = [] := List.eq_nil_of_length_eq_zero hr.len
    subst hl
    cases A' with
    | none =>
      refine ⟨A, c, w, ?_, by simpa using h, ⟨rfl, rfl, rfl, Nat.le_refl _, fun _ _ _ => rfl⟩, Below.refl _ _, .inl rfl⟩
      rcases h.2 with ⟨e, rfl⟩ | ⟨g, cap, cur, e, _, _, hnc, _⟩
      · injection e with e1 e2 e3
        subst e1; subst e3
        simp [Builtin.append_, run_underlying Tryz.underlying27, sizeOf, typeInfo, hi, Builtin.lenOf, Builtin.firstCells]
      · injection e with e1 e2 e3
        subst e1; subst e3
        simp [Builtin.append_, run_underlying Tryz.underlying27, sizeOf, typeInfo, hi, Builtin.lenOf, Builtin.firstCells, hnc, storeCells]
    | some a => exact key a rfl (by simp [optCells])
  · obtain ⟨b, o, rfl, _, hc⟩ := hr.at_ h0
    refine key _ rfl (fun j u hj => ?_)
    have hjm : j < os'.length * 2 := by
      have := (List.getElem?_eq_some_iff.1 hj).1
      rwa [optCells_len] at this
    refine cell_add ?_
    obtain ⟨i, rfl | rfl⟩ : ∃ i, j = i * 2 ∨ j = i * 2 + 1 := ⟨j / 2, by omega⟩
    · rw [(optCells_at os' i (by omega)).1] at hj
      rw [(hc i (by have := hr.len; omega)).1]; exact hj
    · rw [(optCells_at os' i (by omega)).2] at hj
      rw [(hc i (by have := hr.len; omega)).2]; exact hj

theorem wpList_appO {ops : Array Oper} {rest : List Oper} {o : Oper} {a : Act} {w : World} {Q : Exit → Act → World → Prop} (hgd : o.guard = Option.none) (s x : Operand)
    (ho : o.op = .call { callee := .builtin .append, args := #[s, x], argTypes := #[27, 27] })
    (B : Nat) (A A' : Option Addr) (n c m c' : Nat) (os os' : List OptV) (hs : a.eval s = .slice A n c) (hx : a.eval x = .slice A' m c') (h : OwnO w B A n c os) (hr : RdO w A' m os') (hsz : (n + m) * 32 ≤ 140737488355328) (hB : B ≤ w.heap.size)
    (hk : ∀ A2 c2 w', OwnO w' B A2 (n + m) c2 (os ++ os') → w.grownBy w' (Value.slice A n c).ownBlock → Below B w w' → ((Value.slice A2 (n + m) c2).ownBlock = (Value.slice A n c).ownBlock ∨ (Value.slice A2 (n + m) c2).ownBlock = some w.heap.size) →
      wpList Tryz.prog ops Q rest (a.put o.dst (.slice A2 (n + m) c2)) w') : wpList Tryz.prog ops Q (o :: rest) a w := by
  refine wpList_plain hgd fun K hK => ?_
  obtain ⟨A2, c2, w', hrun, h1, h2, h3, h4⟩ := appO_run w o.type B A A' n c m c' os os' h hr hsz hB
  unfold Oper.wp execOp
  simp only [ho, resolve, invoke, builtin, Sem.run_bind, Sem.run_pure, Result.andThen_ok, List.map_toArray, List.map_cons, List.map_nil, hs, hx, hrun]
  exact hK _ _ (hk A2 c2 w' h1 h2 h3 h4)

/-- An append at a step of a region that draws its order. -/
theorem step_appO {ops : Array Oper} {o : Oper} {a : Act} {w : World} {K : Act → World → Prop} {Q : Exit → Act → World → Prop} {E : Prop} (hgd : o.guard = Option.none) (s x : Operand)
    (ho : o.op = .call { callee := .builtin .append, args := #[s, x], argTypes := #[27, 27] })
    (B : Nat) (A A' : Option Addr) (n c m c' : Nat) (l l' : List OptV) (N : Nat) (l2 : List OptV) (hN : n + m = N) (hl : l ++ l' = l2) (hs : a.eval s = .slice A n c) (hx : a.eval x = .slice A' m c') (h : OwnO w B A n c l) (hr : RdO w A' m l') (hsz : (n + m) * 32 ≤ 140737488355328) (hB : B ≤ w.heap.size)
    (hk : ∀ A2 c2 w', OwnO w' B A2 N c2 l2 → w.grownBy w' (Value.slice A n c).ownBlock → Below B w w' → ((Value.slice A2 N c2).ownBlock = (Value.slice A n c).ownBlock ∨ (Value.slice A2 N c2).ownBlock = some w.heap.size) → K (a.put o.dst (.slice A2 N c2)) w') :
    if Region.wanted o (yielded ops a.tmps) = true then Oper.wp Tryz.prog o a w K Q else E := by
  subst hN; subst hl
  have hw : Region.wanted o (yielded ops a.tmps) = true := by simp [Region.wanted, hgd]
  rw [if_pos hw]
  obtain ⟨A2, c2, w', hrun, h1, h2, h3, h4⟩ := appO_run w o.type B A A' n c m c' l l' h hr hsz hB
  unfold Oper.wp execOp
  simp only [ho, resolve, invoke, builtin, Sem.run_bind, Sem.run_pure, Result.andThen_ok, List.map_toArray, List.map_cons, List.map_nil, hs, hx, hrun]
  exact hk A2 c2 w' h1 h2 h3 h4

/-- The block in which a slice begins. -/
def Blk (A : Option Addr) (k : Nat) : Prop := ∃ a, A = some a ∧ a.block = k
theorem grown_but {w w' : World} {A : Option Addr} {n c : Nat} (h : w.grownBy w' (Value.slice A n c).ownBlock) : But (Blk A) w w' :=
  ⟨h.os, h.tape, h.output, h.size, fun k hk hn => h.block k hk (fun e => hn (by
    cases A with
    | none => simp [Value.ownBlock] at e
    | some a => exact ⟨a, rfl, by simpa [Value.ownBlock] using e.symm⟩))⟩
/-- What the options point to does not begin in the block of the slice A. -/
def ApartO (os : List OptV) (A : Option Addr) : Prop := ∀ o ∈ os, ∀ b off, o.A = some ⟨b, off, Option.none⟩ → 0 < o.n → ¬ Blk A b
theorem Reads.but {S : Nat → Prop} {w w' : World} : ∀ {os : List OptV} {ls : List (Int × List Int)}, Reads w os ls → But S w w' → (∀ o ∈ os, ∀ b off, o.A = some ⟨b, off, Option.none⟩ → 0 < o.n → ¬ S b) → Reads w' os ls
  | [], [], _, _, _ => trivial
  | o :: os, l :: ls, h, hb, hs => ⟨⟨h.1.1, h.1.2.1, h.1.2.2.1, h.1.2.2.2.1, h.1.2.2.2.2.but hb (hs o (by simp))⟩, Reads.but h.2 hb (fun o' ho' => hs o' (by simp [ho']))⟩
theorem Reads.blk {w : World} : ∀ {os : List OptV} {ls : List (Int × List Int)}, Reads w os ls → ∀ o ∈ os, ∀ b off, o.A = some ⟨b, off, Option.none⟩ → 0 < o.n → b < w.heap.size
  | [], [], _, o, ho, _, _, _, _ => by simp at ho
  | o' :: os, l :: ls, h, o, ho, b, off, he, hn => by
    rcases List.mem_cons.1 ho with rfl | ho
    · obtain ⟨b', off', e', hlt, _⟩ := h.1.2.2.2.2.at_ hn
      rw [he] at e'
      injection e' with e'
      injection e' with e1 _
      subst e1; exact hlt
    · exact Reads.blk h.2 o ho b off he hn
theorem OwnO.blk {w : World} {B : Nat} {A : Option Addr} {n c : Nat} {os : List OptV} (h : OwnO w B A n c os) {k : Nat} (hk : Blk A k) : k < w.heap.size := by
  obtain ⟨a, rfl, rfl⟩ := hk
  rcases h.2 with ⟨e, _⟩ | ⟨g, cap, cur, e, _, hg, _⟩
  · injection e with e _ _; cases e
  · injection e with e _ _; injection e with e; subst e; exact lt_of_block hg
/-- An option more, whose bytes are new, behind an append that may have moved the row. -/
theorem ApartO.snoc {w w1 : World} {B : Nat} {A A' A4 : Option Addr} {n c n' c' d c4 : Nat} {kd : Int} {os : List OptV} {ls : List (Int × List Int)} (h : ApartO os A) (hr : Reads w1 os ls) (ho : OwnO w B A n c os)
    (h4 : 0 < d → ∀ b off, A4 = some ⟨b, off, Option.none⟩ → w.heap.size ≤ b ∧ b < w1.heap.size)
    (hat : (Value.slice A' n' c').ownBlock = (Value.slice A n c).ownBlock ∨ (Value.slice A' n' c').ownBlock = some w1.heap.size) : ApartO (os ++ [⟨kd, A4, d, c4⟩]) A' := by
  intro o hmem b off he hn hbk
  obtain ⟨a, rfl, rfl⟩ := hbk
  rcases hat with hat | hat
  · cases A with
    | none => simp [Value.ownBlock] at hat
    | some a' =>
      have e : a.block = a'.block := by simpa [Value.ownBlock] using hat
      have hlt := ho.blk ⟨a', rfl, rfl⟩
      rcases List.mem_append.1 hmem with hm | hm
      · exact h o hm _ off he hn ⟨a', rfl, e.symm⟩
      · simp at hm
        subst hm
        have := h4 hn _ off he
        omega
  · have e : a.block = w1.heap.size := by simpa [Value.ownBlock] using hat
    rcases List.mem_append.1 hmem with hm | hm
    · have := hr.blk o hm _ off he hn
      omega
    · simp at hm
      subst hm
      have := h4 hn _ off he
      omega

end Go.Proofs.YtheknmihnkennaaGreat
