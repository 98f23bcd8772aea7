/-
  Texts laid together: UdpRef, IcmpSort, IcmpRefPut, IcmpRefRead.
-/
import Derived.Test.YtoegfgbalcholaaZD11
import Derived.Test.YtoegfgbalcholaaZD21
import Derived.Deep.CutRange
import Derived.Laws.BitsLemmas
import Derived.Test.YtoegfgbalcholaaZD01
import Derived.Test.YtoegfgbalcholaaZD06
import Derived.WideMake
import Derived.Deep.RegionHeld3
import Derived.Test.YtoegfgbalcholaaZD02
import Derived.Test.YtoegfgbalcholaaZD14

/-
  The document's own answers for datagrams (culvertref07): laid, Pseudo, Put.
-/
namespace Go.Proofs.Ytoegfgbalcholaa
set_option maxRecDepth 10000
open Go.RowKit

/-- A row that the call has made so far. -/
structure RowSo (w wr : World) (A : Option Addr) (m c : Nat) (l : List Int) : Prop where
  own : OwnB wr w.heap.size A m c l
  byte : ∀ x ∈ l, 0 ≤ x ∧ x < 256
  old : Below w.heap.size w wr
theorem RowSo.next {w wr w' : World} {A A' : Option Addr} {m c m' c' : Nat} {l l' : List Int} (h : RowSo w wr A m c l) (ho : OwnB w' wr.heap.size A' m' c' l') (hl : ∀ x ∈ l', 0 ≤ x ∧ x < 256) (hb : Below wr.heap.size wr w') : RowSo w w' A' m' c' l' :=
  ⟨ho.mono h.old.size, hl, below_trans h.old hb⟩
end Go.Proofs.Ytoegfgbalcholaa

/-
  The contracts of package icmp's sorts (a map that the call makes), Sort, Echo.
-/
namespace Go.Proofs.Ytoegfgbalcholaa
set_option maxRecDepth 10000
open Go.RowKit
set_option linter.unusedSimpArgs false
set_option linter.unusedVariables false

/-- What the map holds. -/
def sortsO : Obj := .map #[⟨.int .u8 0, .int .i64 2, 0⟩, ⟨.int .u8 3, .int .i64 3, 1⟩, ⟨.int .u8 8, .int .i64 1, 2⟩, ⟨.int .u8 11, .int .i64 3, 3⟩, ⟨.int .u8 12, .int .i64 3, 4⟩] 5
theorem findU8 (k : Int) : ∀ (es : List MapEntry) (i : Nat), (∀ e ∈ es, ∃ j : Int, e.key = .int .u8 j ∧ (k == j) = false) → Instr.findNow (.int .u8) (.int .u8 k) es i = some none
  | [], _, _ => rfl
  | e :: es, i, h => by
    obtain ⟨j, hj, hk⟩ := h e (.head _)
    have := findU8 k es (i + 1) (fun x hx => h x (.tail _ hx))
    simp [Instr.findNow, Instr.sameNow, hj, hk, this]
theorem check_u8 (k : Int) (w : World) (e : Bool) : (Instr.checkKey e 10000 5 (.int .u8 k)).run Try.prog w = .ok () w :=
  MapKept.run_checkKey (k := .int .u8 k) Try.underlying5 (by simp [MapKept.IsKey]) e 9999
def setO (w : World) (b : Nat) (o : Obj) : World := { w with heap := w.heap.setIfInBounds b o }
theorem put_u8 (w : World) (b : Nat) (es : Array MapEntry) (clock : Nat) (k v : Int) (hb : w.heap[b]? = some (.map es clock)) (hf : Instr.findNow (.int .u8) (.int .u8 k) es.toList 0 = some none) :
    (Instr.mapUpdate 104 (.map (some b)) (.int .u8 k) (.int .i64 v)).run Try.prog w = .ok () (setO w b (.map (es.push ⟨.int .u8 k, .int .i64 v, clock⟩) (clock + 1))) := by
  simp [setO, Instr.mapUpdate, run_underlying Try.underlying104, MapKept.run_getObj_map hb, check_u8 k w, MapKept.run_findKey Try.underlying5 hf, MapKept.run_setObj_map _ hb, Result.andThen]
theorem info_int : (Try.prog.info? 3).map (·.zero) = some (some (.int .i64 0)) := by kernel_rfl
theorem zero_int (w : World) : (zeroValue 3).run Try.prog w = .ok (.int .i64 0) w := by
  have h := info_int
  cases hi : Try.prog.info? 3 with
  | none => rw [hi] at h; simp at h
  | some i =>
    rw [hi] at h
    simp at h
    simp [zeroValue, typeInfo, hi, h, go_sem]
theorem look_u8 (w : World) (b : Nat) (es : Array MapEntry) (clock : Nat) (k x : Int) (hb : w.heap[b]? = some (.map es clock))
    (hf : Instr.findNow (.int .u8) (.int .u8 k) es.toList 0 = some none ∧ x = 0 ∨ ∃ i, Instr.findNow (.int .u8) (.int .u8 k) es.toList 0 = some (some (i, .int .i64 x))) :
    (Instr.lookup 104 (.map (some b)) (.int .u8 k) false).run Try.prog w = .ok (.int .i64 x) w := by
  rcases hf with ⟨hf, rfl⟩ | ⟨i, hf⟩
  · simp [Instr.lookup, run_underlying Try.underlying104, MapKept.run_getObj_map hb, check_u8 k w, MapKept.run_findKey Try.underlying5 hf, zero_int, Result.andThen]
  · simp [Instr.lookup, run_underlying Try.underlying104, MapKept.run_getObj_map hb, check_u8 k w, MapKept.run_findKey Try.underlying5 hf, Result.andThen]
theorem setO_at {w : World} {b : Nat} {o : Obj} (o' : Obj) (hb : w.heap[b]? = some o) : (setO w b o').heap[b]? = some o' := by
  have := lt_of_block hb
  simp [setO, this]
theorem setO_below {W w : World} {B b : Nat} {o : Obj} (h : Below B W w) (hb : B ≤ b) : Below B W (setO w b o) :=
  ⟨h.os, h.tape, h.output, by simpa [setO] using h.size, fun k hk => by
    have := h.block k hk
    rw [← this]
    simp only [setO]
    rw [Array.getElem?_setIfInBounds_ne (by omega)]⟩
def SortsIs (w : World) (e : Ending) (w' : World) : Prop := ∃ g, e = .returned (.map (some g)) ∧ w'.heap[g]? = some sortsO ∧ Below w.heap.size w w'
theorem sorts_any (w : World) : Calls Try.prog 72 #[] w (SortsIs w) := by
  obtain ⟨w0, e0⟩ : ∃ w0, w.alloc (.map #[] 0) = w0 := ⟨_, rfl⟩
  have k0 : w0.heap[w.heap.size]? = some (.map #[] 0) := by rw [← e0]; exact heap_alloc_new w _
  have b0 : Below w.heap.size w w0 := by rw [← e0]; exact (Below.refl _ _).alloc (Nat.le_refl _) _
  have r1 := put_u8 w0 w.heap.size _ _ 0 2 k0 (findU8 _ _ _ (by simp))
  have k1 := setO_at (.map (#[].push ⟨.int .u8 0, .int .i64 2, 0⟩) 1) k0
  have b1 := setO_below (o := .map (#[].push ⟨.int .u8 0, .int .i64 2, 0⟩) 1) b0 (Nat.le_refl _)
  simp only [List.push_toArray, List.nil_append, List.cons_append, Nat.reduceAdd] at r1 k1 b1
  obtain ⟨w1, e1⟩ : ∃ v, setO w0 w.heap.size (.map #[⟨.int .u8 0, .int .i64 2, 0⟩] 1) = v := ⟨_, rfl⟩
  rw [e1] at r1 k1 b1
  clear e1
  have r2 := put_u8 w1 w.heap.size _ _ 3 3 k1 (findU8 _ _ _ (by simp))
  have k2 := setO_at (.map (#[⟨.int .u8 0, .int .i64 2, 0⟩].push ⟨.int .u8 3, .int .i64 3, 1⟩) 2) k1
  have b2 := setO_below (o := .map (#[⟨.int .u8 0, .int .i64 2, 0⟩].push ⟨.int .u8 3, .int .i64 3, 1⟩) 2) b1 (Nat.le_refl _)
  simp only [List.push_toArray, List.nil_append, List.cons_append, Nat.reduceAdd] at r2 k2 b2
  obtain ⟨w2, e2⟩ : ∃ v, setO w1 w.heap.size (.map #[⟨.int .u8 0, .int .i64 2, 0⟩, ⟨.int .u8 3, .int .i64 3, 1⟩] 2) = v := ⟨_, rfl⟩
  rw [e2] at r2 k2 b2
  clear e2
  have r3 := put_u8 w2 w.heap.size _ _ 8 1 k2 (findU8 _ _ _ (by simp))
  have k3 := setO_at (.map (#[⟨.int .u8 0, .int .i64 2, 0⟩, ⟨.int .u8 3, .int .i64 3, 1⟩].push ⟨.int .u8 8, .int .i64 1, 2⟩) 3) k2
  have b3 := setO_below (o := .map (#[⟨.int .u8 0, .int .i64 2, 0⟩, ⟨.int .u8 3, .int .i64 3, 1⟩].push ⟨.int .u8 8, .int .i64 1, 2⟩) 3) b2 (Nat.le_refl _)
  simp only [List.push_toArray, List.nil_append, List.cons_append, Nat.reduceAdd] at r3 k3 b3
  obtain ⟨w3, e3⟩ : ∃ v, setO w2 w.heap.size (.map #[⟨.int .u8 0, .int .i64 2, 0⟩, ⟨.int .u8 3, .int .i64 3, 1⟩, ⟨.int .u8 8, .int .i64 1, 2⟩] 3) = v := ⟨_, rfl⟩
  rw [e3] at r3 k3 b3
  clear e3
  have r4 := put_u8 w3 w.heap.size _ _ 11 3 k3 (findU8 _ _ _ (by simp))
  have k4 := setO_at (.map (#[⟨.int .u8 0, .int .i64 2, 0⟩, ⟨.int .u8 3, .int .i64 3, 1⟩, ⟨.int .u8 8, .int .i64 1, 2⟩].push ⟨.int .u8 11, .int .i64 3, 3⟩) 4) k3
  have b4 := setO_below (o := .map (#[⟨.int .u8 0, .int .i64 2, 0⟩, ⟨.int .u8 3, .int .i64 3, 1⟩, ⟨.int .u8 8, .int .i64 1, 2⟩].push ⟨.int .u8 11, .int .i64 3, 3⟩) 4) b3 (Nat.le_refl _)
  simp only [List.push_toArray, List.nil_append, List.cons_append, Nat.reduceAdd] at r4 k4 b4
  obtain ⟨w4, e4⟩ : ∃ v, setO w3 w.heap.size (.map #[⟨.int .u8 0, .int .i64 2, 0⟩, ⟨.int .u8 3, .int .i64 3, 1⟩, ⟨.int .u8 8, .int .i64 1, 2⟩, ⟨.int .u8 11, .int .i64 3, 3⟩] 4) = v := ⟨_, rfl⟩
  rw [e4] at r4 k4 b4
  clear e4
  have r5 := put_u8 w4 w.heap.size _ _ 12 3 k4 (findU8 _ _ _ (by simp))
  have k5 := setO_at (.map (#[⟨.int .u8 0, .int .i64 2, 0⟩, ⟨.int .u8 3, .int .i64 3, 1⟩, ⟨.int .u8 8, .int .i64 1, 2⟩, ⟨.int .u8 11, .int .i64 3, 3⟩].push ⟨.int .u8 12, .int .i64 3, 4⟩) 5) k4
  have b5 := setO_below (o := .map (#[⟨.int .u8 0, .int .i64 2, 0⟩, ⟨.int .u8 3, .int .i64 3, 1⟩, ⟨.int .u8 8, .int .i64 1, 2⟩, ⟨.int .u8 11, .int .i64 3, 3⟩].push ⟨.int .u8 12, .int .i64 3, 4⟩) 5) b4 (Nat.le_refl _)
  simp only [List.push_toArray, List.nil_append, List.cons_append, Nat.reduceAdd] at r5 k5 b5
  obtain ⟨w5, e5⟩ : ∃ v, setO w4 w.heap.size (.map #[⟨.int .u8 0, .int .i64 2, 0⟩, ⟨.int .u8 3, .int .i64 3, 1⟩, ⟨.int .u8 8, .int .i64 1, 2⟩, ⟨.int .u8 11, .int .i64 3, 3⟩, ⟨.int .u8 12, .int .i64 3, 4⟩] 5) = v := ⟨_, rfl⟩
  rw [e5] at r5 k5 b5
  clear e5
  have K5 := Lib.hid k5
  have B5 := Lib.hid b5
  have hmk := run_makeMap_plain (P := Try.prog) w 104
  rw [e0] at hmk
  clear k0 k1 k2 k3 k4 k5 b0 b1 b2 b3 b4 b5
  go_enter Try.func72, Try.ntmps72
  go_wp2_with fail
  go_ret
  exact ⟨_, rfl, K5.out, B5.out⟩

/-- What stands in the map at a Type. -/
def kindM (ty : Int) : Int := if ty = 0 then 2 else if ty = 3 then 3 else if ty = 8 then 1 else if ty = 11 then 3 else if ty = 12 then 3 else 0
theorem look_sorts (w : World) (g : Nat) (ty y : Int) (hg : w.heap[g]? = some sortsO) (hy : kindM ty = y) : (Instr.lookup 104 (.map (some g)) (.int .u8 ty) false).run Try.prog w = .ok (.int .i64 y) w := by
  refine look_u8 w g _ _ ty y hg ?_
  subst hy
  by_cases h0 : ty = 0
  · subst h0; exact .inr ⟨0, rfl⟩
  by_cases h3 : ty = 3
  · subst h3; exact .inr ⟨1, rfl⟩
  by_cases h8 : ty = 8
  · subst h8; exact .inr ⟨2, rfl⟩
  by_cases h11 : ty = 11
  · subst h11; exact .inr ⟨3, rfl⟩
  by_cases h12 : ty = 12
  · subst h12; exact .inr ⟨4, rfl⟩
  exact .inl ⟨findU8 _ _ _ (by simp [h0, h3, h8, h11, h12]), by unfold kindM; rw [if_neg h0, if_neg h3, if_neg h8, if_neg h11, if_neg h12]⟩
theorem sort_kind (ty cd : Int) : sortM ty cd = if kindM ty ≠ 3 ∧ cd ≠ 0 then 0 else kindM ty := by
  unfold sortM kindM
  by_cases h0 : ty = 0
  · subst h0; by_cases hc : cd = 0 <;> simp [hc]
  by_cases h3 : ty = 3
  · subst h3; simp
  by_cases h8 : ty = 8
  · subst h8; by_cases hc : cd = 0 <;> simp [hc]
  by_cases h11 : ty = 11
  · subst h11; simp
  by_cases h12 : ty = 12
  · subst h12; simp
  simp [h0, h3, h8, h11, h12]
theorem anyH_mono {P : Program} {md : Region.Mode} {ops : Array Oper} {Q : Exit → Act → World → Prop} {S S' : World → Prop} (hS : ∀ w, S' w → S w) :
    ∀ (fuel : Nat) (listed : Array Bool) (a : Act) (w : World), wpAnyH P md ops Q S' fuel listed a w → wpAnyH P md ops Q S fuel listed a w
  | 0, _, _, _, h => h
  | fuel + 1, _, _, _, h => ⟨h.1, fun i hi => wpOp_mono (fun a' w' h' => ⟨hS w' h'.1, anyH_mono hS fuel _ a' w' h'.2⟩) (h.2 i hi)⟩
theorem sort8_any (ty cd rs : Int) (A : Option Addr) (n c : Nat) (x : Int) (w : World) (hx : sortM ty cd = x) :
    Calls Try.prog 38 #[.agg #[.int .u8 ty, .int .u8 cd, .int .u32 rs, .slice A n c]] w (IntIs x w) := by
  rw [sort_kind] at hx
  obtain ⟨y, hy⟩ : ∃ y, kindM ty = y := ⟨_, rfl⟩
  rw [hy] at hx
  have Hy := Lib.hid hy
  clear hy
  obtain ⟨z, hz⟩ : ∃ z, w.heap.size = z := ⟨_, rfl⟩
  obtain ⟨w0, ew⟩ : ∃ w0, w.alloc (.cells #[.int .u8 ty, .int .u8 cd, .int .u32 rs, .slice A n c] 50) = w0 := ⟨_, rfl⟩
  have Hb0 := Lib.hid (show Below w.heap.size w w0.drew by rw [← ew]; exact ((Below.refl _ _).alloc (Nat.le_refl _) _).drew)
  have HK := Lib.hid (show w0.drew.heap[z]? = some (.cells #[.int .u8 ty, .int .u8 cd, .int .u32 rs, .slice A n c] 50 (0, 0)) by rw [← ew, ← hz]; exact heap_alloc_new w _)
  go_enter Try.func38, Try.ntmps38
  go_upto_region 1 with (fail)
  try simp only [ew, hz]
  refine wp_region_held_drew (S := fun w' => w'.cell? ⟨z, 0, none⟩ = some (.int .u8 ty)) (by kernel_rfl) (cells4 HK.out).1 (fun hHeld => ?_)
  obtain ⟨wd, ewd⟩ : ∃ wd, w0.drew = wd := ⟨_, rfl⟩
  rw [ewd] at Hb0 HK hHeld ⊢
  clear ewd ew hz
  refine tk 1 ?_ rfl ?_ ?_
  rotate_left
  · intro w' hSw; (go_simp <;> (with_reducible rfl))
  try simp only [Act.put, putL]
  refine tk 2 ?_ rfl ?_ ?_
  rotate_left
  · intro w' hSw; (go_simp <;> (with_reducible rfl))
  try simp only [Act.put, putL]
  refine tkC 0 rfl (fun K hK => ?_)
  go_simp
  (refine (sorts_any _).mono ?_; rintro e w1 ⟨g, rfl, hg, hb1⟩; have HG := Lib.hid hg; have Hb1 := Lib.hid hb1; clear hg hb1)
  refine hK.out _ _ ?_ (fun hHeld => ?_)
  · exact (cells4 (blk_on HK.out Hb1.out)).1
  clear hK K
  try simp only [Act.put, putL]
  refine anyH_mono (S' := fun w' => w'.cell? ⟨z, 0, none⟩ = some (.int .u8 ty) ∧ w'.heap[g]? = some sortsO) (fun _ h => h.1) _ _ _ _ ?_
  have hHeld := And.intro (cells4 (blk_on HK.out Hb1.out)).1 HG.out
  have hlook := fun W h => look_sorts W g ty y h Hy.out
  refine tk 3 ?_ rfl ?_ ?_
  rotate_left
  · intro w' hSw; (go_simp <;> (with_reducible rfl))
  try simp only [Act.put, putL]
  refine tk 4 ?_ rfl ?_ ?_
  rotate_left
  · intro w' hSw; (go_simp <;> (with_reducible rfl))
  try simp only [Act.put, putL]
  refine wpAnyH_done (by kernel_rfl) ?_ _
  by_cases h3 : y = 3
  · have h3b : (y != 3) = false := by simp [h3]
    have Hx := Lib.hid (show x = y by rw [← hx]; simp [h3])
    clear hx h3
    obtain ⟨c0, c1, c2, c3⟩ := cells4 (blk_on HK.out Hb1.out)
    have Hb := Lib.hid (below_trans Hb0.out Hb1.out)
    clear hlook hHeld HG Hb1
    go_wp2_with fail
    go_ret
    exact ⟨by rw [Hx.out]; rfl, Hb.out⟩
  · have h3b : (y != 3) = true := by simpa using h3
    by_cases h0 : cd = 0
    · have h0b : (cd != 0) = false := by simp [h0]
      have Hx := Lib.hid (show x = y by rw [← hx]; simp [h0])
      clear hx h3 h0
      obtain ⟨c0, c1, c2, c3⟩ := cells4 (blk_on HK.out Hb1.out)
      have Hb := Lib.hid (below_trans Hb0.out Hb1.out)
      clear hlook hHeld HG Hb1
      go_wp2_with fail
      go_ret
      exact ⟨by rw [Hx.out]; rfl, Hb.out⟩
    · have h0b : (cd != 0) = true := by simpa using h0
      have Hx := Lib.hid (show x = 0 by rw [← hx]; simp [h0, h3])
      clear hx h3 h0
      obtain ⟨c0, c1, c2, c3⟩ := cells4 (blk_on HK.out Hb1.out)
      have Hb := Lib.hid (below_trans Hb0.out Hb1.out)
      clear hlook hHeld HG Hb1
      go_wp2_with fail
      go_ret
      exact ⟨by rw [Hx.out]; rfl, Hb.out⟩
end Go.Proofs.Ytoegfgbalcholaa

/-
  The document's own answers for messages (culvertref08): Put, Exceeded.
-/
namespace Go.Proofs.Ytoegfgbalcholaa
set_option maxRecDepth 10000
open Go.RowKit

/-- Put tells the row L and x. -/
def PutM (L : List Int) (m : Nat) (x : Int) (w : World) (e : Ending) (w' : World) : Prop := ∃ A c, e = .returned (.tuple #[.slice A m c, .int .i64 x]) ∧ m ≤ c ∧ c ≤ maxLen ∧ OwnB w' w.heap.size A m c L ∧ Below w.heap.size w w'
def errP (s : Msg) : Int := if 1472 < s.d.length then 3 else 0
def toldM (s : Msg) : List Int := if 1472 < s.d.length then [] else msgB s
end Go.Proofs.Ytoegfgbalcholaa

/-
  The document's own answers for messages (culvertref08): Parse, Exceeded.
-/
namespace Go.Proofs.Ytoegfgbalcholaa
set_option maxRecDepth 10000
open Go.RowKit
set_option linter.unusedVariables false
set_option linter.unusedSimpArgs false

theorem Rd.restM {w : World} {A : Option Addr} {n c : Nat} {l : List Int} (h : Rd w A n l) (lo : Nat) (loi : Int) (h0 : 0 < n) (hlo : lo ≤ n) (hc : n ≤ c) (hcm : c ≤ maxLen) (el : loi = (lo : Int)) :
    ∃ A', (∀ W : World, (Instr.sliceAt 22 (.slice A n c) (some (.int .i64 loi)) none none).run Try.prog W = .ok (.slice A' (n - lo) (c - lo)) W) ∧ Rd w A' (n - lo) (l.drop lo) := by
  subst el
  obtain ⟨b, o, rfl, _, _⟩ := h.at_ h0
  unfold maxLen at hcm
  have i0 : (0 : Int) ≤ (lo : Int) := by omega
  have i1 : (lo : Int) ≤ (n : Int) := by omega
  have i2 : (n : Int) ≤ (c : Int) := by omega
  have i3 : lo ≤ c := by omega
  by_cases hl : lo = c
  · subst hl
    obtain rfl : n = lo := by omega
    refine ⟨some ⟨b, o, none⟩, fun W => by go_simp, ?_⟩
    rw [Nat.sub_self, List.drop_eq_nil_of_le (by rw [h.len]; omega)]
    exact Rd.nil _ _
  · have i4 : ¬ c = lo := fun e => hl e.symm
    refine ⟨some ⟨b, o + lo, none⟩, fun W => by go_simp, ?_⟩
    exact h.drop_ rfl (by omega)
structure Pars (w : World) (z : Nat) (b0 b1 v : Int) (wr : World) : Prop where
  old : Below w.heap.size w wr
  res : wr.heap[z]? = some (.cells #[.int .u8 0, .int .u8 0, .int .u32 0, .slice none 0 0] 50 (0, 0))
  mine : wr.heap[z + 1]? = some (.cells #[.int .u8 b0, .int .u8 b1, .int .u32 v, .slice none 0 0] 50 (0, 0))
  size : wr.heap.size = z + 2
theorem Pars.step {w : World} {z : Nat} {b0 b1 v : Int} {wr : World} (h : Pars w z b0 b1 v wr) (hz : w.heap.size = z) (y : Int) : Pars w z b0 b1 y (wr.setCell ⟨z + 1, 2, none⟩ (.int .u32 y)) :=
  ⟨h.old.setCell (by simp <;> omega) _, other_blk h.res (by omega) _, set_cell4 h.mine _, by simpa using h.size⟩
theorem Pars.drew {w : World} {z : Nat} {b0 b1 v : Int} {wr : World} (h : Pars w z b0 b1 v wr) : Pars w z b0 b1 v wr.drew := ⟨h.old.drew, h.res, h.mine, h.size⟩
theorem own_store {w : World} {B p i : Nat} {A : Option Addr} {n c : Nat} {l : List Int} (h : OwnB w B A n c l) (hp : p < B) (v : Value) : OwnB (w.setCell ⟨p, i, none⟩ v) B A n c l :=
  h.but ((But.refl (fun k => k = p) _).setCell (p := ⟨p, i, none⟩) rfl v) (fun k hk e => by omega)
theorem set_cell4d {w : World} {q : Nat} {u0 u1 u2 u3 : Value} {t : TypeId} (h : w.heap[q]? = some (.cells #[u0, u1, u2, u3] t (0, 0))) (v : Value) : (w.setCell ⟨q, 3, none⟩ v).heap[q]? = some (.cells #[u0, u1, u2, v] t (0, 0)) := by
  simp [World.setCell, Array.getElem?_modify, h]
structure Overs (w : World) (z : Nat) (l : List Int) (j : Nat) (Aj : Option Addr) (cj : Nat) (wr : World) : Prop where
  old : Below w.heap.size w wr
  res : wr.heap[z]? = some (.cells #[.int .u8 0, .int .u8 0, .int .u32 0, .slice none 0 0] 50 (0, 0))
  mine : wr.heap[z + 1]? = some (.cells #[.int .u8 11, .int .u8 0, .int .u32 0, .slice Aj j cj] 50 (0, 0))
  row : OwnB wr (z + 2) Aj j cj (l.take j)
  size : z + 2 ≤ wr.heap.size
theorem Overs.drew {w : World} {z : Nat} {l : List Int} {j : Nat} {Aj : Option Addr} {cj : Nat} {wr : World} (h : Overs w z l j Aj cj wr) : Overs w z l j Aj cj wr.drew := ⟨h.old.drew, h.res, h.mine, h.row.on (Below.drew (Below.refl _ _)), h.size⟩
theorem Overs.step {w : World} {z : Nat} {l : List Int} {j : Nat} {Aj : Option Addr} {cj : Nat} {wr : World} (h : Overs w z l j Aj cj wr) (hz : w.heap.size = z) {w1 : World} {A1 : Option Addr} {c1 : Nat} (ho : OwnB w1 (z + 2) A1 (j + 1) c1 (l.take (j + 1))) (hb : Below (z + 2) wr w1) :
    Overs w z l (j + 1) A1 c1 (w1.setCell ⟨z + 1, 3, none⟩ (.slice A1 (j + 1) c1)) := by
  have hm : w1.heap[z + 1]? = some (.cells #[.int .u8 11, .int .u8 0, .int .u32 0, .slice Aj j cj] 50 (0, 0)) := (hb.block _ (by omega)).trans h.mine
  have hr : w1.heap[z]? = some (.cells #[.int .u8 0, .int .u8 0, .int .u32 0, .slice none 0 0] 50 (0, 0)) := (hb.block _ (by omega)).trans h.res
  refine ⟨(h.old.trans (hb.mono (by omega))).setCell (p := ⟨z + 1, 3, none⟩) (by simp <;> omega) _, other_blk hr (by omega) _, set_cell4d hm _, own_store ho (by omega) _, ?_⟩
  have := hb.size
  have := h.size
  simp <;> omega

end Go.Proofs.Ytoegfgbalcholaa
