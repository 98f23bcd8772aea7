/-
  Texts laid together: IcmpSort, IcmpRefPut, IcmpRefRead, IcmpAsk.
-/
import Derived.Test.YtoegfgbalcholaaGreatZT01
import Derived.Test.YtoegfgbalcholaaGreatZT20
import Derived.WideMake
import Derived.Deep.RegionHeld3
import Derived.Test.YtoegfgbalcholaaGreatZT03
import Derived.Test.YtoegfgbalcholaaGreatZT12
import Derived.Test.YtoegfgbalcholaaGreatZT04
import Derived.RegionTactic

/-
  The contracts of package icmp's sorts (a map that the call makes), Sort, Echo.
-/
namespace Go.Proofs.YtoegfgbalcholaaGreat
set_option maxRecDepth 10000
open Go.RowKit
set_option linter.unusedSimpArgs false
set_option linter.unusedVariables false

/-- What the map holds. -/
def sortsO : Obj := .map #[⟨.int .u8 0, .int .i64 2, 0⟩, ⟨.int .u8 3, .int .i64 3, 1⟩, ⟨.int .u8 8, .int .i64 1, 2⟩, ⟨.int .u8 11, .int .i64 3, 3⟩, ⟨.int .u8 12, .int .i64 3, 4⟩] 5
theorem findU8 (k : Int) : ∀ (es : List MapEntry) (i : Nat), (∀ e ∈ es, ∃ j : Int, e.key = .int .u8 j ∧ (k == j) = false) → Instr.findNow (.int .u8) (.int .u8 k) es i = some none
  | [], _, _ => rfl
  | e :: es, i, h => by
    obtain ⟨j, hj, hk⟩ := h e (.head _)
    have := findU8 k es (i + 1) (fun x hx => h x (.tail _ hx))
    simp [Instr.findNow, Instr.sameNow, hj, hk, this]
theorem check_u8 (k : Int) (w : World) (e : Bool) : (Instr.checkKey e 10000 5 (.int .u8 k)).run Tryz.prog w = .ok () w :=
  MapKept.run_checkKey (k := .int .u8 k) Tryz.underlying5 (by simp [MapKept.IsKey]) e 9999
def setO (w : World) (b : Nat) (o : Obj) : World := { w with heap := w.heap.setIfInBounds b o }
theorem put_u8 (w : World) (b : Nat) (es : Array MapEntry) (clock : Nat) (k v : Int) (hb : w.heap[b]? = some (.map es clock)) (hf : Instr.findNow (.int .u8) (.int .u8 k) es.toList 0 = some none) :
    (Instr.mapUpdate 147 (.map (some b)) (.int .u8 k) (.int .i64 v)).run Tryz.prog w = .ok () (setO w b (.map (es.push ⟨.int .u8 k, .int .i64 v, clock⟩) (clock + 1))) := by
  simp [setO, Instr.mapUpdate, run_underlying Tryz.underlying147, MapKept.run_getObj_map hb, check_u8 k w, MapKept.run_findKey Tryz.underlying5 hf, MapKept.run_setObj_map _ hb, Result.andThen]
theorem info_int : (Tryz.prog.info? 3).map (·.zero) = some (some (.int .i64 0)) := by kernel_rfl
theorem zero_int (w : World) : (zeroValue 3).run Tryz.prog w = .ok (.int .i64 0) w := by
  have h := info_int
  cases hi : Tryz.prog.info? 3 with
  | none => rw [hi] at h; simp at h
  | some i =>
    rw [hi] at h
    simp at h
    simp [zeroValue, typeInfo, hi, h, go_sem]
theorem look_u8 (w : World) (b : Nat) (es : Array MapEntry) (clock : Nat) (k x : Int) (hb : w.heap[b]? = some (.map es clock))
    (hf : Instr.findNow (.int .u8) (.int .u8 k) es.toList 0 = some none ∧ x = 0 ∨ ∃ i, Instr.findNow (.int .u8) (.int .u8 k) es.toList 0 = some (some (i, .int .i64 x))) :
    (Instr.lookup 147 (.map (some b)) (.int .u8 k) false).run Tryz.prog w = .ok (.int .i64 x) w := by
  rcases hf with ⟨hf, rfl⟩ | ⟨i, hf⟩
  · simp [Instr.lookup, run_underlying Tryz.underlying147, MapKept.run_getObj_map hb, check_u8 k w, MapKept.run_findKey Tryz.underlying5 hf, zero_int, Result.andThen]
  · simp [Instr.lookup, run_underlying Tryz.underlying147, MapKept.run_getObj_map hb, check_u8 k w, MapKept.run_findKey Tryz.underlying5 hf, Result.andThen]
theorem setO_at {w : World} {b : Nat} {o : Obj} (o' : Obj) (hb : w.heap[b]? = some o) : (setO w b o').heap[b]? = some o' := by
  have := lt_of_block hb
  simp [setO, this]
theorem setO_below {W w : World} {B b : Nat} {o : Obj} (h : Below B W w) (hb : B ≤ b) : Below B W (setO w b o) :=
  ⟨h.os, h.tape, h.output, by simpa [setO] using h.size, fun k hk => by
    have := h.block k hk
    rw [← this]
    simp only [setO]
    rw [Array.getElem?_setIfInBounds_ne (by omega)]⟩
def SortsIs (w : World) (e : Ending) (w' : World) : Prop := ∃ g, e = .returned (.map (some g)) ∧ w'.heap[g]? = some sortsO ∧ Below w.heap.size w w'
theorem sorts_any (w : World) : Calls Tryz.prog 113 #[] w (SortsIs w) := by
  obtain ⟨w0, e0⟩ : ∃ w0, w.alloc (.map #[] 0) = w0 := ⟨_, rfl⟩
  have k0 : w0.heap[w.heap.size]? = some (.map #[] 0) := by rw [← e0]; exact heap_alloc_new w _
  have b0 : Below w.heap.size w w0 := by rw [← e0]; exact (Below.refl _ _).alloc (Nat.le_refl _) _
  have r1 := put_u8 w0 w.heap.size _ _ 0 2 k0 (findU8 _ _ _ (by simp))
  have k1 := setO_at (.map (#[].push ⟨.int .u8 0, .int .i64 2, 0⟩) 1) k0
  have b1 := setO_below (o := .map (#[].push ⟨.int .u8 0, .int .i64 2, 0⟩) 1) b0 (Nat.le_refl _)
  simp only [List.push_toArray, List.nil_append, List.cons_append, Nat.reduceAdd] at r1 k1 b1
  obtain ⟨w1, e1⟩ : ∃ v, setO w0 w.heap.size (.map #[⟨.int .u8 0, .int .i64 2, 0⟩] 1) = v := ⟨_, rfl⟩
  rw [e1] at r1 k1 b1
  clear e1
  have r2 := put_u8 w1 w.heap.size _ _ 3 3 k1 (findU8 _ _ _ (by simp))
  have k2 := setO_at (.map (#[⟨.int .u8 0, .int .i64 2, 0⟩].push ⟨.int .u8 3, .int .i64 3, 1⟩) 2) k1
  have b2 := setO_below (o := .map (#[⟨.int .u8 0, .int .i64 2, 0⟩].push ⟨.int .u8 3, .int .i64 3, 1⟩) 2) b1 (Nat.le_refl _)
  simp only [List.push_toArray, List.nil_append, List.cons_append, Nat.reduceAdd] at r2 k2 b2
  obtain ⟨w2, e2⟩ : ∃ v, setO w1 w.heap.size (.map #[⟨.int .u8 0, .int .i64 2, 0⟩, ⟨.int .u8 3, .int .i64 3, 1⟩] 2) = v := ⟨_, rfl⟩
  rw [e2] at r2 k2 b2
  clear e2
  have r3 := put_u8 w2 w.heap.size _ _ 8 1 k2 (findU8 _ _ _ (by simp))
  have k3 := setO_at (.map (#[⟨.int .u8 0, .int .i64 2, 0⟩, ⟨.int .u8 3, .int .i64 3, 1⟩].push ⟨.int .u8 8, .int .i64 1, 2⟩) 3) k2
  have b3 := setO_below (o := .map (#[⟨.int .u8 0, .int .i64 2, 0⟩, ⟨.int .u8 3, .int .i64 3, 1⟩].push ⟨.int .u8 8, .int .i64 1, 2⟩) 3) b2 (Nat.le_refl _)
  simp only [List.push_toArray, List.nil_append, List.cons_append, Nat.reduceAdd] at r3 k3 b3
  obtain ⟨w3, e3⟩ : ∃ v, setO w2 w.heap.size (.map #[⟨.int .u8 0, .int .i64 2, 0⟩, ⟨.int .u8 3, .int .i64 3, 1⟩, ⟨.int .u8 8, .int .i64 1, 2⟩] 3) = v := ⟨_, rfl⟩
  rw [e3] at r3 k3 b3
  clear e3
  have r4 := put_u8 w3 w.heap.size _ _ 11 3 k3 (findU8 _ _ _ (by simp))
  have k4 := setO_at (.map (#[⟨.int .u8 0, .int .i64 2, 0⟩, ⟨.int .u8 3, .int .i64 3, 1⟩, ⟨.int .u8 8, .int .i64 1, 2⟩].push ⟨.int .u8 11, .int .i64 3, 3⟩) 4) k3
  have b4 := setO_below (o := .map (#[⟨.int .u8 0, .int .i64 2, 0⟩, ⟨.int .u8 3, .int .i64 3, 1⟩, ⟨.int .u8 8, .int .i64 1, 2⟩].push ⟨.int .u8 11, .int .i64 3, 3⟩) 4) b3 (Nat.le_refl _)
  simp only [List.push_toArray, List.nil_append, List.cons_append, Nat.reduceAdd] at r4 k4 b4
  obtain ⟨w4, e4⟩ : ∃ v, setO w3 w.heap.size (.map #[⟨.int .u8 0, .int .i64 2, 0⟩, ⟨.int .u8 3, .int .i64 3, 1⟩, ⟨.int .u8 8, .int .i64 1, 2⟩, ⟨.int .u8 11, .int .i64 3, 3⟩] 4) = v := ⟨_, rfl⟩
  rw [e4] at r4 k4 b4
  clear e4
  have r5 := put_u8 w4 w.heap.size _ _ 12 3 k4 (findU8 _ _ _ (by simp))
  have k5 := setO_at (.map (#[⟨.int .u8 0, .int .i64 2, 0⟩, ⟨.int .u8 3, .int .i64 3, 1⟩, ⟨.int .u8 8, .int .i64 1, 2⟩, ⟨.int .u8 11, .int .i64 3, 3⟩].push ⟨.int .u8 12, .int .i64 3, 4⟩) 5) k4
  have b5 := setO_below (o := .map (#[⟨.int .u8 0, .int .i64 2, 0⟩, ⟨.int .u8 3, .int .i64 3, 1⟩, ⟨.int .u8 8, .int .i64 1, 2⟩, ⟨.int .u8 11, .int .i64 3, 3⟩].push ⟨.int .u8 12, .int .i64 3, 4⟩) 5) b4 (Nat.le_refl _)
  simp only [List.push_toArray, List.nil_append, List.cons_append, Nat.reduceAdd] at r5 k5 b5
  obtain ⟨w5, e5⟩ : ∃ v, setO w4 w.heap.size (.map #[⟨.int .u8 0, .int .i64 2, 0⟩, ⟨.int .u8 3, .int .i64 3, 1⟩, ⟨.int .u8 8, .int .i64 1, 2⟩, ⟨.int .u8 11, .int .i64 3, 3⟩, ⟨.int .u8 12, .int .i64 3, 4⟩] 5) = v := ⟨_, rfl⟩
  rw [e5] at r5 k5 b5
  clear e5
  have K5 := Lib.hid k5
  have B5 := Lib.hid b5
  have hmk := run_makeMap_plain (P := Tryz.prog) w 147
  rw [e0] at hmk
  clear k0 k1 k2 k3 k4 k5 b0 b1 b2 b3 b4 b5
  go_enter Tryz.func113, Tryz.ntmps113
  go_wp2_with fail
  go_ret
  exact ⟨_, rfl, K5.out, B5.out⟩

/-- What stands in the map at a Type. -/
def kindM (ty : Int) : Int := if ty = 0 then 2 else if ty = 3 then 3 else if ty = 8 then 1 else if ty = 11 then 3 else if ty = 12 then 3 else 0
theorem look_sorts (w : World) (g : Nat) (ty y : Int) (hg : w.heap[g]? = some sortsO) (hy : kindM ty = y) : (Instr.lookup 147 (.map (some g)) (.int .u8 ty) false).run Tryz.prog w = .ok (.int .i64 y) w := by
  refine look_u8 w g _ _ ty y hg ?_
  subst hy
  by_cases h0 : ty = 0
  · subst h0; exact .inr ⟨0, rfl⟩
  by_cases h3 : ty = 3
  · subst h3; exact .inr ⟨1, rfl⟩
  by_cases h8 : ty = 8
  · subst h8; exact .inr ⟨2, rfl⟩
  by_cases h11 : ty = 11
  · subst h11; exact .inr ⟨3, rfl⟩
  by_cases h12 : ty = 12
  · subst h12; exact .inr ⟨4, rfl⟩
  exact .inl ⟨findU8 _ _ _ (by simp [h0, h3, h8, h11, h12]), by unfold kindM; rw [if_neg h0, if_neg h3, if_neg h8, if_neg h11, if_neg h12]⟩
theorem sort_kind (ty cd : Int) : sortM ty cd = if kindM ty ≠ 3 ∧ cd ≠ 0 then 0 else kindM ty := by
  unfold sortM kindM
  by_cases h0 : ty = 0
  · subst h0; by_cases hc : cd = 0 <;> simp [hc]
  by_cases h3 : ty = 3
  · subst h3; simp
  by_cases h8 : ty = 8
  · subst h8; by_cases hc : cd = 0 <;> simp [hc]
  by_cases h11 : ty = 11
  · subst h11; simp
  by_cases h12 : ty = 12
  · subst h12; simp
  simp [h0, h3, h8, h11, h12]
theorem anyH_mono {P : Program} {md : Region.Mode} {ops : Array Oper} {Q : Exit → Act → World → Prop} {S S' : World → Prop} (hS : ∀ w, S' w → S w) :
    ∀ (fuel : Nat) (listed : Array Bool) (a : Act) (w : World), wpAnyH P md ops Q S' fuel listed a w → wpAnyH P md ops Q S fuel listed a w
  | 0, _, _, _, h => h
  | fuel + 1, _, _, _, h => ⟨h.1, fun i hi => wpOp_mono (fun a' w' h' => ⟨hS w' h'.1, anyH_mono hS fuel _ a' w' h'.2⟩) (h.2 i hi)⟩
theorem sort8_any (ty cd rs : Int) (A : Option Addr) (n c : Nat) (x : Int) (w : World) (hx : sortM ty cd = x) :
    Calls Tryz.prog 76 #[.agg #[.int .u8 ty, .int .u8 cd, .int .u32 rs, .slice A n c]] w (IntIs x w) := by
  rw [sort_kind] at hx
  obtain ⟨y, hy⟩ : ∃ y, kindM ty = y := ⟨_, rfl⟩
  rw [hy] at hx
  have Hy := Lib.hid hy
  clear hy
  obtain ⟨z, hz⟩ : ∃ z, w.heap.size = z := ⟨_, rfl⟩
  obtain ⟨w0, ew⟩ : ∃ w0, w.alloc (.cells #[.int .u8 ty, .int .u8 cd, .int .u32 rs, .slice A n c] 33) = w0 := ⟨_, rfl⟩
  have Hb0 := Lib.hid (show Below w.heap.size w w0.drew by rw [← ew]; exact ((Below.refl _ _).alloc (Nat.le_refl _) _).drew)
  have HK := Lib.hid (show w0.drew.heap[z]? = some (.cells #[.int .u8 ty, .int .u8 cd, .int .u32 rs, .slice A n c] 33 (0, 0)) by rw [← ew, ← hz]; exact heap_alloc_new w _)
  go_enter Tryz.func76, Tryz.ntmps76
  go_upto_region 1 with (fail)
  try simp only [ew, hz]
  refine wp_region_held_drew (S := fun w' => w'.cell? ⟨z, 0, none⟩ = some (.int .u8 ty)) (by kernel_rfl) (cells4 HK.out).1 (fun hHeld => ?_)
  obtain ⟨wd, ewd⟩ : ∃ wd, w0.drew = wd := ⟨_, rfl⟩
  rw [ewd] at Hb0 HK hHeld ⊢
  clear ewd ew hz
  refine tk 1 ?_ rfl ?_ ?_
  rotate_left
  · intro w' hSw; (go_simp <;> (with_reducible rfl))
  try simp only [Act.put, putL]
  refine tk 2 ?_ rfl ?_ ?_
  rotate_left
  · intro w' hSw; (go_simp <;> (with_reducible rfl))
  try simp only [Act.put, putL]
  refine tkC 0 rfl (fun K hK => ?_)
  go_simp
  (refine (sorts_any _).mono ?_; rintro e w1 ⟨g, rfl, hg, hb1⟩; have HG := Lib.hid hg; have Hb1 := Lib.hid hb1; clear hg hb1)
  refine hK.out _ _ ?_ (fun hHeld => ?_)
  · exact (cells4 (blk_on HK.out Hb1.out)).1
  clear hK K
  try simp only [Act.put, putL]
  refine anyH_mono (S' := fun w' => w'.cell? ⟨z, 0, none⟩ = some (.int .u8 ty) ∧ w'.heap[g]? = some sortsO) (fun _ h => h.1) _ _ _ _ ?_
  have hHeld := And.intro (cells4 (blk_on HK.out Hb1.out)).1 HG.out
  have hlook := fun W h => look_sorts W g ty y h Hy.out
  refine tk 3 ?_ rfl ?_ ?_
  rotate_left
  · intro w' hSw; (go_simp <;> (with_reducible rfl))
  try simp only [Act.put, putL]
  refine tk 4 ?_ rfl ?_ ?_
  rotate_left
  · intro w' hSw; (go_simp <;> (with_reducible rfl))
  try simp only [Act.put, putL]
  refine wpAnyH_done (by kernel_rfl) ?_ _
  by_cases h3 : y = 3
  · have h3b : (y != 3) = false := by simp [h3]
    have Hx := Lib.hid (show x = y by rw [← hx]; simp [h3])
    clear hx h3
    obtain ⟨c0, c1, c2, c3⟩ := cells4 (blk_on HK.out Hb1.out)
    have Hb := Lib.hid (below_trans Hb0.out Hb1.out)
    clear hlook hHeld HG Hb1
    go_wp2_with fail
    go_ret
    exact ⟨by rw [Hx.out]; rfl, Hb.out⟩
  · have h3b : (y != 3) = true := by simpa using h3
    by_cases h0 : cd = 0
    · have h0b : (cd != 0) = false := by simp [h0]
      have Hx := Lib.hid (show x = y by rw [← hx]; simp [h0])
      clear hx h3 h0
      obtain ⟨c0, c1, c2, c3⟩ := cells4 (blk_on HK.out Hb1.out)
      have Hb := Lib.hid (below_trans Hb0.out Hb1.out)
      clear hlook hHeld HG Hb1
      go_wp2_with fail
      go_ret
      exact ⟨by rw [Hx.out]; rfl, Hb.out⟩
    · have h0b : (cd != 0) = true := by simpa using h0
      have Hx := Lib.hid (show x = 0 by rw [← hx]; simp [h0, h3])
      clear hx h3 h0
      obtain ⟨c0, c1, c2, c3⟩ := cells4 (blk_on HK.out Hb1.out)
      have Hb := Lib.hid (below_trans Hb0.out Hb1.out)
      clear hlook hHeld HG Hb1
      go_wp2_with fail
      go_ret
      exact ⟨by rw [Hx.out]; rfl, Hb.out⟩
end Go.Proofs.YtoegfgbalcholaaGreat

/-
  The document's own answers for messages (culvertref08): Put, Exceeded.
-/
namespace Go.Proofs.YtoegfgbalcholaaGreat
set_option maxRecDepth 10000
open Go.RowKit

/-- Put tells the row L and x. -/
def PutM (L : List Int) (m : Nat) (x : Int) (w : World) (e : Ending) (w' : World) : Prop := ∃ A c, e = .returned (.tuple #[.slice A m c, .int .i64 x]) ∧ m ≤ c ∧ c ≤ maxLen ∧ OwnB w' w.heap.size A m c L ∧ Below w.heap.size w w'
def errP (s : Msg) : Int := if 1472 < s.d.length then 3 else 0
def toldM (s : Msg) : List Int := if 1472 < s.d.length then [] else msgB s
end Go.Proofs.YtoegfgbalcholaaGreat

/-
  The document's own answers for messages (culvertref08): Parse, Exceeded.
-/
namespace Go.Proofs.YtoegfgbalcholaaGreat
set_option maxRecDepth 10000
open Go.RowKit
set_option linter.unusedVariables false
set_option linter.unusedSimpArgs false

theorem Rd.restM {w : World} {A : Option Addr} {n c : Nat} {l : List Int} (h : Rd w A n l) (lo : Nat) (loi : Int) (h0 : 0 < n) (hlo : lo ≤ n) (hc : n ≤ c) (hcm : c ≤ maxLen) (el : loi = (lo : Int)) :
    ∃ A', (∀ W : World, (Instr.sliceAt 24 (.slice A n c) (some (.int .i64 loi)) none none).run Tryz.prog W = .ok (.slice A' (n - lo) (c - lo)) W) ∧ Rd w A' (n - lo) (l.drop lo) := by
  subst el
  obtain ⟨b, o, rfl, _, _⟩ := h.at_ h0
  unfold maxLen at hcm
  have i0 : (0 : Int) ≤ (lo : Int) := by omega
  have i1 : (lo : Int) ≤ (n : Int) := by omega
  have i2 : (n : Int) ≤ (c : Int) := by omega
  have i3 : lo ≤ c := by omega
  by_cases hl : lo = c
  · subst hl
    obtain rfl : n = lo := by omega
    refine ⟨some ⟨b, o, none⟩, fun W => by go_simp, ?_⟩
    rw [Nat.sub_self, List.drop_eq_nil_of_le (by rw [h.len]; omega)]
    exact Rd.nil _ _
  · have i4 : ¬ c = lo := fun e => hl e.symm
    refine ⟨some ⟨b, o + lo, none⟩, fun W => by go_simp, ?_⟩
    exact h.drop_ rfl (by omega)
def MsgGood (s : Msg) (m : Nat) (w : World) (e : Ending) (w' : World) : Prop :=
  ∃ AD cD, e = .returned (.tuple #[.agg #[.int .u8 s.ty, .int .u8 s.cd, .int .u32 s.rs, .slice AD m cD], .int .i64 0]) ∧ m ≤ cD ∧ cD ≤ maxLen ∧ OwnB w' w.heap.size AD m cD s.d ∧ Below w.heap.size w w'

structure Pars (w : World) (z : Nat) (b0 b1 v : Int) (wr : World) : Prop where
  old : Below w.heap.size w wr
  res : wr.heap[z]? = some (.cells #[.int .u8 0, .int .u8 0, .int .u32 0, .slice none 0 0] 33 (0, 0))
  mine : wr.heap[z + 1]? = some (.cells #[.int .u8 b0, .int .u8 b1, .int .u32 v, .slice none 0 0] 33 (0, 0))
  size : wr.heap.size = z + 2
theorem Pars.step {w : World} {z : Nat} {b0 b1 v : Int} {wr : World} (h : Pars w z b0 b1 v wr) (hz : w.heap.size = z) (y : Int) : Pars w z b0 b1 y (wr.setCell ⟨z + 1, 2, none⟩ (.int .u32 y)) :=
  ⟨h.old.setCell (by simp <;> omega) _, other_blk h.res (by omega) _, set_cell4 h.mine _, by simpa using h.size⟩
theorem Pars.drew {w : World} {z : Nat} {b0 b1 v : Int} {wr : World} (h : Pars w z b0 b1 v wr) : Pars w z b0 b1 v wr.drew := ⟨h.old.drew, h.res, h.mine, h.size⟩
theorem own_store {w : World} {B p i : Nat} {A : Option Addr} {n c : Nat} {l : List Int} (h : OwnB w B A n c l) (hp : p < B) (v : Value) : OwnB (w.setCell ⟨p, i, none⟩ v) B A n c l :=
  h.but ((But.refl (fun k => k = p) _).setCell (p := ⟨p, i, none⟩) rfl v) (fun k hk e => by omega)
theorem set_cell4d {w : World} {q : Nat} {u0 u1 u2 u3 : Value} {t : TypeId} (h : w.heap[q]? = some (.cells #[u0, u1, u2, u3] t (0, 0))) (v : Value) : (w.setCell ⟨q, 3, none⟩ v).heap[q]? = some (.cells #[u0, u1, u2, v] t (0, 0)) := by
  simp [World.setCell, Array.getElem?_modify, h]
/-- Something may go no further: the message of the first 68 bytes. -/
def OverIs (l : List Int) (k : Nat) (w : World) (e : Ending) (w' : World) : Prop :=
  ∃ AD cD, e = .returned (.agg #[.int .u8 11, .int .u8 0, .int .u32 0, .slice AD k cD]) ∧ k ≤ cD ∧ cD ≤ maxLen ∧ OwnB w' w.heap.size AD k cD (l.take k) ∧ Below w.heap.size w w'
structure Overs (w : World) (z : Nat) (l : List Int) (j : Nat) (Aj : Option Addr) (cj : Nat) (wr : World) : Prop where
  old : Below w.heap.size w wr
  res : wr.heap[z]? = some (.cells #[.int .u8 0, .int .u8 0, .int .u32 0, .slice none 0 0] 33 (0, 0))
  mine : wr.heap[z + 1]? = some (.cells #[.int .u8 11, .int .u8 0, .int .u32 0, .slice Aj j cj] 33 (0, 0))
  row : OwnB wr (z + 2) Aj j cj (l.take j)
  size : z + 2 ≤ wr.heap.size
theorem Overs.drew {w : World} {z : Nat} {l : List Int} {j : Nat} {Aj : Option Addr} {cj : Nat} {wr : World} (h : Overs w z l j Aj cj wr) : Overs w z l j Aj cj wr.drew := ⟨h.old.drew, h.res, h.mine, h.row.on (Below.drew (Below.refl _ _)), h.size⟩
theorem Overs.step {w : World} {z : Nat} {l : List Int} {j : Nat} {Aj : Option Addr} {cj : Nat} {wr : World} (h : Overs w z l j Aj cj wr) (hz : w.heap.size = z) {w1 : World} {A1 : Option Addr} {c1 : Nat} (ho : OwnB w1 (z + 2) A1 (j + 1) c1 (l.take (j + 1))) (hb : Below (z + 2) wr w1) :
    Overs w z l (j + 1) A1 c1 (w1.setCell ⟨z + 1, 3, none⟩ (.slice A1 (j + 1) c1)) := by
  have hm : w1.heap[z + 1]? = some (.cells #[.int .u8 11, .int .u8 0, .int .u32 0, .slice Aj j cj] 33 (0, 0)) := (hb.block _ (by omega)).trans h.mine
  have hr : w1.heap[z]? = some (.cells #[.int .u8 0, .int .u8 0, .int .u32 0, .slice none 0 0] 33 (0, 0)) := (hb.block _ (by omega)).trans h.res
  refine ⟨(h.old.trans (hb.mono (by omega))).setCell (p := ⟨z + 1, 3, none⟩) (by simp <;> omega) _, other_blk hr (by omega) _, set_cell4d hm _, own_store ho (by omega) _, ?_⟩
  have := hb.size
  have := h.size
  simp <;> omega

end Go.Proofs.YtoegfgbalcholaaGreat

/-
  The contracts of package icmp's Echo, WithId, Exceeded, Same; of bytes.Clone of any slice.
-/
namespace Go.Proofs.YtoegfgbalcholaaGreat
set_option maxRecDepth 10000
open Go.RowKit
set_option linter.unusedSimpArgs false
set_option linter.unusedVariables false

theorem bclone_all (A : Option Addr) (n c : Nat) (l : List Int) (w : World) (hn : n ≤ 140737488355328) (h : Rd w A n l) :
    Calls Tryz.prog 23 #[.slice A n c] w (RowIs n l w) := by
  have hnil : ∀ W : World, (binOp .eql 24 (.slice A n c) (.slice none 0 0)).run Tryz.prog W = .ok (.bool A.isNone) W := fun W => Lib.run_eql_slice_nil W _ _ A n c 0 0 Tryz.underlying24
  cases A with
  | none =>
    obtain rfl : n = 0 := by
      rcases Nat.eq_zero_or_pos n with h0 | h0
      · exact h0
      · obtain ⟨b, o, e, _⟩ := h.at_ h0; cases e
    have hl : l = [] := List.eq_nil_of_length_eq_zero h.len
    subst hl
    have Ho := Lib.hid (OwnB.nil w w.heap.size)
    clear h
    go_enter Tryz.func23, Tryz.ntmps23
    go_wp2_with fail
    go_ret
    exact ⟨none, 0, rfl, Nat.le_refl _, by simp [maxLen], Ho.out, Below.refl _ _⟩
  | some a =>
    have hb := (Below.refl w.heap.size w).alloc (Nat.le_refl _) (.cells #[] 5)
    have Ho := Lib.hid (OwnB.made (w := w.alloc (.cells #[] 5)) (B := w.heap.size) (g := w.heap.size) (cap := 0) (cur := #[]) (heap_alloc_new w _) (Nat.le_refl _) (by simp [maxLen]) rfl)
    have Hr := Lib.hid (h.below hb)
    have Hb := Lib.hid hb
    clear h hb
    go_enter Tryz.func23, Tryz.ntmps23
    go_wp2_with (refine wpList_app rfl (.tmp 5) (.tmp 6) rfl w.heap.size (some ⟨w.heap.size, 0, none⟩) (some a) 0 0 n c [] l rfl rfl Ho.out Hr.out (by omega) (by simp) ?_; intro A2 c2 w2 hown2 _ hb2 _)
    go_ret
    have h2 := hown2
    rw [Nat.zero_add, List.nil_append] at h2
    exact ⟨A2, c2, by simp, h2.cap, h2.capMax, h2, Hb.out.trans hb2⟩

theorem echo8_any (ty cd rs : Int) (A : Option Addr) (n c : Nat) (w : World) (hr : 0 ≤ rs ∧ rs < 4294967296) :
    Calls Tryz.prog 30 #[.agg #[.int .u8 ty, .int .u8 cd, .int .u32 rs, .slice A n c]] w (EchoIs ty cd rs w) := by
  obtain ⟨z, hz⟩ : ∃ z, w.heap.size = z := ⟨_, rfl⟩
  have hb0 := (Below.refl w.heap.size w).alloc (Nat.le_refl _) (.cells #[.int .u8 ty, .int .u8 cd, .int .u32 rs, .slice A n c] 33)
  have hk := heap_alloc_new w (.cells #[.int .u8 ty, .int .u8 cd, .int .u32 rs, .slice A n c] 33)
  rw [hz] at hk
  obtain ⟨x, ex⟩ : ∃ x, sortM ty cd = x := ⟨_, rfl⟩
  have Hs := Lib.hid (fun W => sort8_any ty cd rs A n c x W ex)
  have Hb := Lib.hid hb0
  have Hk := Lib.hid hk
  have hse := sort_echo ty cd
  rw [ex] at hse
  have hq1 : IntKind.u16.wrap (rs / 65536) = rs / 65536 := by (simp [IntKind.wrap, IntKind.bits, IntKind.signed] <;> omega)
  have hq2 : IntKind.u16.wrap rs = rs % 65536 := by (simp [IntKind.wrap, IntKind.bits, IntKind.signed] <;> omega)
  have hq5 : IntKind.u32.wrap (rs / 65536) = rs / 65536 := by (simp [IntKind.wrap, IntKind.bits, IntKind.signed] <;> omega)
  clear hb0 hk ex
  have Hr := Lib.hid hr
  rcases hse with ⟨he, hx⟩ | ⟨he, hx⟩
  · have He := Lib.hid he
    clear he
    rcases hx with rfl | rfl
    ·
      go_enter Tryz.func30, Tryz.ntmps30
      go_wp2_with fail
      refine (Hs.out _).mono ?_
      rintro e w1 ⟨rfl, hb1⟩
      have hk1 := blk_on Hk.out hb1
      obtain ⟨c0, c1, c2, c3⟩ := cells4 hk1
      have Hb1 := Lib.hid (below_trans Hb.out hb1)
      clear hb1 hk1
      go_wp2_with fail
      go_region
      go_wp2_with fail
      refine bodyPost_ret (v := .tuple #[.int .u16 (rs / 65536), .int .u16 (rs % 65536), .bool true]) (by simp [results, Tryz.results30, go_sem]) rfl ?_
      exact ⟨by rw [if_pos He.out], Hb1.out.drew⟩
    ·
      go_enter Tryz.func30, Tryz.ntmps30
      go_wp2_with fail
      refine (Hs.out _).mono ?_
      rintro e w1 ⟨rfl, hb1⟩
      have hk1 := blk_on Hk.out hb1
      obtain ⟨c0, c1, c2, c3⟩ := cells4 hk1
      have Hb1 := Lib.hid (below_trans Hb.out hb1)
      clear hb1 hk1
      go_wp2_with fail
      go_region
      go_wp2_with fail
      refine bodyPost_ret (v := .tuple #[.int .u16 (rs / 65536), .int .u16 (rs % 65536), .bool true]) (by simp [results, Tryz.results30, go_sem]) rfl ?_
      exact ⟨by rw [if_pos He.out], Hb1.out.drew⟩
  · have He := Lib.hid (show ¬ echoM ty cd = true by rw [he]; simp)
    clear he hr
    rcases hx with rfl | rfl
    ·
      go_enter Tryz.func30, Tryz.ntmps30
      go_wp2_with fail
      refine (Hs.out _).mono ?_
      rintro e w1 ⟨rfl, hb1⟩
      have Hb1 := Lib.hid (below_trans Hb.out hb1)
      clear hb1
      go_wp2_with fail
      refine bodyPost_ret (v := .tuple #[.int .u16 0, .int .u16 0, .bool false]) (by simp [results, Tryz.results30, go_sem]) rfl ?_
      exact ⟨by rw [if_neg He.out], Hb1.out⟩
    ·
      go_enter Tryz.func30, Tryz.ntmps30
      go_wp2_with fail
      refine (Hs.out _).mono ?_
      rintro e w1 ⟨rfl, hb1⟩
      have Hb1 := Lib.hid (below_trans Hb.out hb1)
      clear hb1
      go_wp2_with fail
      refine bodyPost_ret (v := .tuple #[.int .u16 0, .int .u16 0, .bool false]) (by simp [results, Tryz.results30, go_sem]) rfl ?_
      exact ⟨by rw [if_neg He.out], Hb1.out⟩

def WithOwn (s : Msg) (id : Int) (n : Nat) (w : World) (e : Ending) (w' : World) : Prop :=
  ∃ A' c', e = .returned (.agg #[.int .u8 (withM s id).ty, .int .u8 (withM s id).cd, .int .u32 (withM s id).rs, .slice A' n c']) ∧ n ≤ c' ∧ c' ≤ maxLen ∧ OwnB w' w.heap.size A' n c' s.d ∧ Below w.heap.size w w'
theorem or32h (x y : Int) (hx : 0 ≤ x ∧ x < 65536) (hy : 0 ≤ y ∧ y < 65536) : bits .or .u32 (x * 65536) y = x * 65536 + y :=
  bits_join .u32 32 (by decide) wraps_u32 16 (x * 65536) y (by omega) (by omega) (by omega) (by omega) (by omega) (by omega)
theorem with8_any (s : Msg) (id : Int) (A : Option Addr) (n c : Nat) (w : World) (hr : 0 ≤ s.rs ∧ s.rs < 4294967296) (hi : 0 ≤ id ∧ id < 65536) (hn : n ≤ 140737488355328) (hrd : Rd w A n s.d) :
    Calls Tryz.prog 8 #[.agg #[.int .u8 s.ty, .int .u8 s.cd, .int .u32 s.rs, .slice A n c], .int .u16 id] w (WithOwn s id n w) := by
  have hy := @withM_yes s
  have hno := @withM_no s
  obtain ⟨ty, cd, rs, d⟩ := s
  simp only at hr hy hno hrd ⊢
  have He := Lib.hid (fun W => echo8_any ty cd rs A n c W hr)
  have Hcl := Lib.hid (fun W h => bclone_all A n c d W hn h)
  obtain ⟨z, hz⟩ : ∃ z, w.heap.size = z := ⟨_, rfl⟩
  obtain ⟨w0, ew⟩ : ∃ w0, (w.alloc (.cells #[.int .u8 ty, .int .u8 cd, .int .u32 rs, .slice A n c] 33)).alloc (.cells #[.int .u8 0, .int .u8 0, .int .u32 0, .slice none 0 0] 33) = w0 := ⟨_, rfl⟩
  have hb0 : Below w.heap.size w w0 := by rw [← ew]; exact ((Below.refl _ _).alloc (Nat.le_refl _) _).alloc (by simp) _
  have hk : w0.heap[z]? = some (.cells #[.int .u8 ty, .int .u8 cd, .int .u32 rs, .slice A n c] 33 (0, 0)) := by rw [← ew, Below.heap_alloc _ _ _ (by simp [hz]), ← hz]; exact heap_alloc_new w _
  have hk1 : w0.heap[z + 1]? = some (.cells #[.int .u8 0, .int .u8 0, .int .u32 0, .slice none 0 0] 33 (0, 0)) := by
    rw [← ew, ← hz]; simpa using heap_alloc_new (w.alloc (.cells #[.int .u8 ty, .int .u8 cd, .int .u32 rs, .slice A n c] 33)) (.cells #[.int .u8 0, .int .u8 0, .int .u32 0, .slice none 0 0] 33)
  have hc0 : w0.heap.size = z + 2 := by rw [← ew, ← hz]; simp
  have HK := Lib.hid (show ∀ w', Below w0.heap.size w0 w' → w'.heap[z]? = some (.cells #[.int .u8 ty, .int .u8 cd, .int .u32 rs, .slice A n c] 33 (0, 0)) ∧ w'.heap[z + 1]? = some (.cells #[.int .u8 0, .int .u8 0, .int .u32 0, .slice none 0 0] 33 (0, 0)) ∧ Rd w' A n d ∧ Below w.heap.size w w' ∧ z + 2 ≤ w'.heap.size from fun w' hb => ⟨blk_on hk hb, blk_on hk1 hb, (hrd.below hb0).below hb, below_trans hb0 hb, by have := hb.size; omega⟩)
  have Hdz := Lib.hid (show ∀ k o, A = some ⟨k, o, none⟩ → 0 < n → k < z from fun k o e h0 => by
    obtain ⟨b, o', e', hlt, _⟩ := hrd.at_ h0
    rw [e] at e'; injection e' with e'; injection e' with e' _; omega)
  have Hz := Lib.hid hz
  have hq1 : IntKind.u32.wrap id = id := by (simp [IntKind.wrap, IntKind.bits, IntKind.signed] <;> omega)
  have hq2 : IntKind.u32.wrap (id * 65536) = id * 65536 := by (simp [IntKind.wrap, IntKind.bits, IntKind.signed] <;> omega)
  have hq3 : IntKind.u32.wrap (rs % 65536) = rs % 65536 := by (simp [IntKind.wrap, IntKind.bits, IntKind.signed] <;> omega)
  have hq4 := or32h id (rs % 65536) hi (by omega)
  have Hew := Lib.hid ew
  have Hsz0 := Lib.hid hc0
  clear hb0 hk hk1 ew hc0 hr hrd
  obtain ⟨c0, c1, c2, c3⟩ := cells4 (HK.out w0 (Below.refl _ _)).1
  by_cases h : echoM ty cd = true
  · have Hy := Lib.hid (hy h id)
    have H := Lib.hid h
    clear hy hno h
    rw [show (65536 : Int) * id = id * 65536 from Int.mul_comm _ _] at Hy
    go_enter Tryz.func8, Tryz.ntmps8
    go_upto_region 1 with (fail)
    rw [Hew.out]
    go_wp2_with fail
    refine (He.out _).mono ?_
    rintro e w1 ⟨h1, hb1⟩
    rw [if_pos H.out] at h1
    subst h1
    clear c0 c1 c2 c3
    obtain ⟨k0, k1, hrd, hB, hsz⟩ := HK.out w1 hb1
    obtain ⟨c0, c1, c2, c3⟩ := cells4 k0
    have hf := blk_free k0
    have KB := Lib.hid (set_cell4 k0 (.int .u32 (id * 65536 + rs % 65536)))
    have KR := Lib.hid (other_blk (i := 2) k1 (show z ≠ z + 1 by omega) (.int .u32 (id * 65536 + rs % 65536)))
    have hbS : But (fun k => k = z) w1 (w1.setCell ⟨z, 2, none⟩ (.int .u32 (id * 65536 + rs % 65536))) := (But.refl (fun k => k = z) w1).setCell (p := ⟨z, 2, none⟩) rfl _
    have Hrd := Lib.hid (hrd.but hbS (fun g o e h0 hh => by have := Hdz.out g o e h0; omega))
    have HB := Lib.hid (hB.setCell (p := ⟨z, 2, none⟩) (by have := Hz.out; simp <;> omega) (.int .u32 (id * 65536 + rs % 65536)))
    have Hzw := Lib.hid (show z + 1 < (w1.setCell ⟨z, 2, none⟩ (.int .u32 (id * 65536 + rs % 65536))).heap.size by simp; omega)
    clear k0 k1 hb1 hrd hB hbS hsz
    go_upto_region 4 with (fail)
    obtain ⟨v1, ev1⟩ : ∃ v1, w1.setCell ⟨z, 2, none⟩ (.int .u32 (id * 65536 + rs % 65536)) = v1 := ⟨_, rfl⟩
    try rw [ev1]
    rw [ev1] at KB KR Hrd HB Hzw
    clear ev1 c0 c1 c2 c3 hf
    obtain ⟨c0, c1, c2, c3⟩ := cells4 KB.out
    go_wp2_with fail
    refine (Hcl.out _ Hrd.out).mono ?_
    rintro e w2 ⟨A2, k2, rfl, hk2, hm2, ho2, hb2⟩
    clear c0 c1 c2 c3
    have k3 := blk_on KB.out hb2
    have k4 := blk_on KR.out hb2
    obtain ⟨c0, c1, c2, c3⟩ := cells4 k3
    have f0 := blk_free k3
    have K5 := Lib.hid (set_cell4d k3 (.slice A2 n k2))
    have K6 := Lib.hid (other_blk (i := 3) k4 (show z ≠ z + 1 by omega) (.slice A2 n k2))
    have Ho := Lib.hid (own_store (i := 3) ho2 (show z < _ by have := Hzw.out; omega) (.slice A2 n k2))
    have Hbb := Lib.hid ((below_trans HB.out hb2).setCell (p := ⟨z, 3, none⟩) (by have := Hz.out; simp <;> omega) (.slice A2 n k2))
    have Hcc := Lib.hid (And.intro hk2 hm2)
    clear k3 k4 hb2 ho2
    obtain ⟨w3, ew3⟩ : ∃ w3, w2.setCell ⟨z, 3, none⟩ (.slice A2 n k2) = w3 := ⟨_, rfl⟩
    rw [ew3] at K5 K6 Ho Hbb
    go_upto_region 5 with (fail)
    try rw [ew3]
    clear c0 c1 c2 c3 ew3
    obtain ⟨c0, c1, c2, c3⟩ := cells4 K5.out
    have gf := blk_free K6.out
    obtain ⟨r0, r1, r2, r3⟩ := cells4 K6.out
    have hne : ¬ z = z + 1 := by omega
    have hne2 : ¬ z + 1 = z := by omega
    have K7 := Lib.hid (set4_blk K6.out (.int .u8 ty) (.int .u8 cd) (.int .u32 (id * 65536 + rs % 65536)) (.slice A2 n k2))
    go_wp2_with fail
    obtain ⟨s0, s1, s2, s3⟩ := cells4 K7.out
    refine bodyPost_ret (v := .agg #[.int .u8 ty, .int .u8 cd, .int .u32 (id * 65536 + rs % 65536), .slice A2 n k2]) (by simp [results, Tryz.results8, go_sem, s0, s1, s2, s3]) rfl ?_
    have hzz := Hz.out
    have hw := Hzw.out
    have hlt : z + 1 < _ := hw
    exact ⟨A2, k2, by rw [Hy.out], Hcc.out.1, Hcc.out.2, (own_store (own_store (own_store (own_store Ho.out hlt _) hlt _) hlt _) hlt _).mono (by omega), ((((Hbb.out.setCell (by simp <;> omega) _).setCell (by simp <;> omega) _).setCell (by simp <;> omega) _).setCell (by simp <;> omega) _)⟩
  · have Hy := Lib.hid (hno h id)
    have H := Lib.hid h
    clear hy hno h
    go_enter Tryz.func8, Tryz.ntmps8
    go_upto_region 1 with (fail)
    rw [Hew.out]
    go_wp2_with fail
    refine (He.out _).mono ?_
    rintro e w1 ⟨h1, hb1⟩
    rw [if_neg H.out] at h1
    subst h1
    clear c0 c1 c2 c3
    obtain ⟨k0, k1, hrd, hB, hsz⟩ := HK.out w1 hb1
    obtain ⟨c0, c1, c2, c3⟩ := cells4 k0
    have KB := Lib.hid k0
    have KR := Lib.hid k1
    have Hrd := Lib.hid hrd
    have HB := Lib.hid hB
    have Hzw := Lib.hid (show z + 1 < w1.heap.size by omega)
    clear k0 k1 hb1 hrd hB hsz
    go_wp2_with fail
    refine (Hcl.out _ Hrd.out).mono ?_
    rintro e w2 ⟨A2, k2, rfl, hk2, hm2, ho2, hb2⟩
    clear c0 c1 c2 c3
    have k3 := blk_on KB.out hb2
    have k4 := blk_on KR.out hb2
    obtain ⟨c0, c1, c2, c3⟩ := cells4 k3
    have f0 := blk_free k3
    have K5 := Lib.hid (set_cell4d k3 (.slice A2 n k2))
    have K6 := Lib.hid (other_blk (i := 3) k4 (show z ≠ z + 1 by omega) (.slice A2 n k2))
    have Ho := Lib.hid (own_store (i := 3) ho2 (show z < _ by have := Hzw.out; omega) (.slice A2 n k2))
    have Hbb := Lib.hid ((below_trans HB.out hb2).setCell (p := ⟨z, 3, none⟩) (by have := Hz.out; simp <;> omega) (.slice A2 n k2))
    have Hcc := Lib.hid (And.intro hk2 hm2)
    clear k3 k4 hb2 ho2
    obtain ⟨w3, ew3⟩ : ∃ w3, w2.setCell ⟨z, 3, none⟩ (.slice A2 n k2) = w3 := ⟨_, rfl⟩
    rw [ew3] at K5 K6 Ho Hbb
    go_upto_region 5 with (fail)
    try rw [ew3]
    clear c0 c1 c2 c3 ew3
    obtain ⟨c0, c1, c2, c3⟩ := cells4 K5.out
    have gf := blk_free K6.out
    obtain ⟨r0, r1, r2, r3⟩ := cells4 K6.out
    have hne : ¬ z = z + 1 := by omega
    have hne2 : ¬ z + 1 = z := by omega
    have K7 := Lib.hid (set4_blk K6.out (.int .u8 ty) (.int .u8 cd) (.int .u32 rs) (.slice A2 n k2))
    go_wp2_with fail
    obtain ⟨s0, s1, s2, s3⟩ := cells4 K7.out
    refine bodyPost_ret (v := .agg #[.int .u8 ty, .int .u8 cd, .int .u32 rs, .slice A2 n k2]) (by simp [results, Tryz.results8, go_sem, s0, s1, s2, s3]) rfl ?_
    have hzz := Hz.out
    have hw := Hzw.out
    have hlt : z + 1 < _ := hw
    exact ⟨A2, k2, by rw [Hy.out], Hcc.out.1, Hcc.out.2, (own_store (own_store (own_store (own_store Ho.out hlt _) hlt _) hlt _) hlt _).mono (by omega), ((((Hbb.out.setCell (by simp <;> omega) _).setCell (by simp <;> omega) _).setCell (by simp <;> omega) _).setCell (by simp <;> omega) _)⟩

theorem over8_any (A : Option Addr) (n c : Nat) (l : List Int) (k : Nat) (w : World) (hA : Rd w A n l) (hc : n ≤ c ∧ c ≤ maxLen) (hk : min n 68 = k) :
    Calls Tryz.prog 17 #[.slice A n c] w (OverIs l k w) := by
  obtain ⟨z, hz⟩ : ∃ z, w.heap.size = z := ⟨_, rfl⟩
  have hrb : (w.alloc (.cells #[.int .u8 0, .int .u8 0, .int .u32 0, .slice none 0 0] 33)).heap[z]? = some (.cells #[.int .u8 0, .int .u8 0, .int .u32 0, .slice none 0 0] 33 (0, 0)) := by rw [← hz]; exact heap_alloc_new w _
  have hb0 : Below w.heap.size w (w.alloc (.cells #[.int .u8 0, .int .u8 0, .int .u32 0, .slice none 0 0] 33)) := (Below.refl _ _).alloc (Nat.le_refl _) _
  obtain ⟨w0, hw0⟩ : ∃ w0, w.alloc (.cells #[.int .u8 0, .int .u8 0, .int .u32 0, .slice none 0 0] 33) = w0 := ⟨_, rfl⟩
  have hs0 : w0.heap.size = z + 1 := by rw [← hw0, ← hz]; simp
  rw [hw0] at hrb hb0
  have Hz := Lib.hid hz
  have Hw := Lib.hid hw0
  have hmin : (if (n : Int) < 68 then (n : Int) else 68) = (k : Int) := by split <;> omega
  have hki : (k : Int) ≤ (c : Int) := by have := hc.1; omega
  have hk68 : k ≤ 68 := by omega
  have Hcl := Lib.hid (bclone_all A k c (l.take k) w0 (by omega) ((hA.take (by omega)).below hb0))
  have Hb0 := Lib.hid hb0
  have KB := Lib.hid hrb
  have Hs0 := Lib.hid hs0
  clear hrb hb0 hw0 hs0 hA hc hk
  go_enter Tryz.func17, Tryz.ntmps17
  go_upto_region 1 with (fail)
  rw [Hw.out]
  go_wp2_with fail
  refine Hcl.out.mono ?_
  rintro e w1 ⟨A1, c1, rfl, hk1, hm1, ho1, hb1⟩
  have k1 := blk_on KB.out hb1
  obtain ⟨r0, r1, r2, r3⟩ := cells4 k1
  have rf := blk_free k1
  have K2 := Lib.hid (set4_blk k1 (.int .u8 11) (.int .u8 0) (.int .u32 0) (.slice A1 k c1))
  have Ho := Lib.hid ho1
  have Hb := Lib.hid (below_trans Hb0.out hb1)
  have Hcc := Lib.hid (And.intro hk1 hm1)
  clear k1 ho1 hb1
  go_wp2_with fail
  obtain ⟨s0, s1, s2, s3⟩ := cells4 K2.out
  refine bodyPost_ret (v := .agg #[.int .u8 11, .int .u8 0, .int .u32 0, .slice A1 k c1]) (by simp [results, Tryz.results17, go_sem, s0, s1, s2, s3]) rfl ?_
  have hzz := Hz.out
  have hlt : z < w0.heap.size := by have := Hs0.out; omega
  exact ⟨A1, c1, rfl, Hcc.out.1, Hcc.out.2, (own_store (own_store (own_store (own_store Ho.out hlt _) hlt _) hlt _) hlt _).mono (by omega), ((((Hb.out.setCell (by simp <;> omega) _).setCell (by simp <;> omega) _).setCell (by simp <;> omega) _).setCell (by simp <;> omega) _)⟩

theorem same8_any (s t : Msg) (A : Option Addr) (n c : Nat) (A' : Option Addr) (n' c' : Nat) (w : World) (x : Bool) (h : Rd w A n s.d) (h' : Rd w A' n' t.d) (hx : msgSame s t = x) :
    Calls Tryz.prog 34 #[.agg #[.int .u8 s.ty, .int .u8 s.cd, .int .u32 s.rs, .slice A n c], .agg #[.int .u8 t.ty, .int .u8 t.cd, .int .u32 t.rs, .slice A' n' c']] w (BoolIs x w) := by
  obtain ⟨ty, cd, rs, d⟩ := s
  obtain ⟨ty', cd', rs', d'⟩ := t
  simp only at h h' ⊢
  have hb := ((Below.refl w.heap.size w).alloc (Nat.le_refl _) (.cells #[.int .u8 ty, .int .u8 cd, .int .u32 rs, .slice A n c] 33)).alloc (by simp) (.cells #[.int .u8 ty', .int .u8 cd', .int .u32 rs', .slice A' n' c'] 33)
  have H1 := Lib.hid (h.below hb)
  have H2 := Lib.hid (h'.below hb)
  have Hb := Lib.hid hb
  clear h h' hb
  unfold msgSame at hx
  simp only at hx
  by_cases h1 : ty = ty'
  case neg =>
    have h1b : (ty == ty') = false := by simpa using h1
    have Hx := Lib.hid (show x = false by rw [← hx]; simp [h1])
    clear hx h1
    go_enter Tryz.func34, Tryz.ntmps34
    go_wp2_with fail
    go_ret
    exact ⟨ret_bool (by rw [Hx.out]), Hb.out⟩
  subst h1
  by_cases h2 : cd = cd'
  case neg =>
    have h2b : (cd == cd') = false := by simpa using h2
    have Hx := Lib.hid (show x = false by rw [← hx]; simp [h2])
    clear hx h2
    go_enter Tryz.func34, Tryz.ntmps34
    go_wp2_with fail
    go_ret
    exact ⟨ret_bool (by rw [Hx.out]), Hb.out⟩
  subst h2
  by_cases h3 : rs = rs'
  case neg =>
    have h3b : (rs == rs') = false := by simpa using h3
    have Hx := Lib.hid (show x = false by rw [← hx]; simp [h3])
    clear hx h3
    go_enter Tryz.func34, Tryz.ntmps34
    go_wp2_with fail
    go_ret
    exact ⟨ret_bool (by rw [Hx.out]), Hb.out⟩
  subst h3
  have Hx := Lib.hid (show decide (d = d') = x by simpa using hx)
  clear hx
  go_enter Tryz.func34, Tryz.ntmps34
  go_wp2_with fail
  refine (bequal_any A A' n n' c c' d d' _ x H1.out H2.out Hx.out).mono ?_
  rintro e w' ⟨rfl, rfl⟩
  go_wp2_with fail
  go_ret
  exact ⟨rfl, Hb.out⟩
end Go.Proofs.YtoegfgbalcholaaGreat
