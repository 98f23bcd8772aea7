/-
  Texts laid together: HeldLast, IcmpSort, InnerCallsW, SegParse.
-/
import Derived.Test.YtoegfgbalcholaaRows
import Derived.OrdersHeld
import Derived.Deep.RegionHeld
import Derived.Test.YtoegfgbalcholaaZC01
import Derived.Test.YtoegfgbalcholaaZC06
import Derived.WideMake
import Derived.Deep.RegionHeld3
import Derived.Test.YtoegfgbalcholaaZC12
import Derived.Test.YtoegfgbalcholaaZC13
import Derived.Test.YtoegfgbalcholaaZC15
import Derived.Laws.StructEq
import Derived.Test.YtoegfgbalcholaaZC10

/-
  A drawn region whose LAST operation turns what the region read (a store to a cell that it loads, an append onto a row that it reads): the condition S is asked behind every operation but that one. No function of the program.
-/
namespace Go.Proofs.Ytoegfgbalcholaa
set_option maxRecDepth 10000
section
variable {P : Program} {ops : Array Oper} {Q : Exit → Act → World → Prop} {md : Region.Mode} {S : World → Prop} {last : Nat}

end
end Go.Proofs.Ytoegfgbalcholaa

/-
  The contracts of package icmp's sorts (a map that the call makes), Sort, Echo.
-/
namespace Go.Proofs.Ytoegfgbalcholaa
set_option maxRecDepth 10000
open Go.RowKit
set_option linter.unusedSimpArgs false
set_option linter.unusedVariables false

/-- What the map holds. -/
def sortsO : Obj := .map #[⟨.int .u8 0, .int .i64 2, 0⟩, ⟨.int .u8 3, .int .i64 3, 1⟩, ⟨.int .u8 8, .int .i64 1, 2⟩, ⟨.int .u8 11, .int .i64 3, 3⟩, ⟨.int .u8 12, .int .i64 3, 4⟩] 5
theorem findU8 (k : Int) : ∀ (es : List MapEntry) (i : Nat), (∀ e ∈ es, ∃ j : Int, e.key = .int .u8 j ∧ (k == j) = false) → Instr.findNow (.int .u8) (.int .u8 k) es i = some none
  | [], _, _ => rfl
  | e :: es, i, h => by
    obtain ⟨j, hj, hk⟩ := h e (.head _)
    have := findU8 k es (i + 1) (fun x hx => h x (.tail _ hx))
    simp [Instr.findNow, Instr.sameNow, hj, hk, this]
theorem check_u8 (k : Int) (w : World) (e : Bool) : (Instr.checkKey e 10000 5 (.int .u8 k)).run Try.prog w = .ok () w :=
  MapKept.run_checkKey (k := .int .u8 k) Try.underlying5 (by simp [MapKept.IsKey]) e 9999
def setO (w : World) (b : Nat) (o : Obj) : World := { w with heap := w.heap.setIfInBounds b o }
theorem put_u8 (w : World) (b : Nat) (es : Array MapEntry) (clock : Nat) (k v : Int) (hb : w.heap[b]? = some (.map es clock)) (hf : Instr.findNow (.int .u8) (.int .u8 k) es.toList 0 = some none) :
    (Instr.mapUpdate 104 (.map (some b)) (.int .u8 k) (.int .i64 v)).run Try.prog w = .ok () (setO w b (.map (es.push ⟨.int .u8 k, .int .i64 v, clock⟩) (clock + 1))) := by
  simp [setO, Instr.mapUpdate, run_underlying Try.underlying104, MapKept.run_getObj_map hb, check_u8 k w, MapKept.run_findKey Try.underlying5 hf, MapKept.run_setObj_map _ hb, Result.andThen]
theorem info_int : (Try.prog.info? 3).map (·.zero) = some (some (.int .i64 0)) := by kernel_rfl
theorem zero_int (w : World) : (zeroValue 3).run Try.prog w = .ok (.int .i64 0) w := by
  have h := info_int
  cases hi : Try.prog.info? 3 with
  | none => rw [hi] at h; simp at h
  | some i =>
    rw [hi] at h
    simp at h
    simp [zeroValue, typeInfo, hi, h, go_sem]
theorem look_u8 (w : World) (b : Nat) (es : Array MapEntry) (clock : Nat) (k x : Int) (hb : w.heap[b]? = some (.map es clock))
    (hf : Instr.findNow (.int .u8) (.int .u8 k) es.toList 0 = some none ∧ x = 0 ∨ ∃ i, Instr.findNow (.int .u8) (.int .u8 k) es.toList 0 = some (some (i, .int .i64 x))) :
    (Instr.lookup 104 (.map (some b)) (.int .u8 k) false).run Try.prog w = .ok (.int .i64 x) w := by
  rcases hf with ⟨hf, rfl⟩ | ⟨i, hf⟩
  · simp [Instr.lookup, run_underlying Try.underlying104, MapKept.run_getObj_map hb, check_u8 k w, MapKept.run_findKey Try.underlying5 hf, zero_int, Result.andThen]
  · simp [Instr.lookup, run_underlying Try.underlying104, MapKept.run_getObj_map hb, check_u8 k w, MapKept.run_findKey Try.underlying5 hf, Result.andThen]
theorem setO_at {w : World} {b : Nat} {o : Obj} (o' : Obj) (hb : w.heap[b]? = some o) : (setO w b o').heap[b]? = some o' := by
  have := lt_of_block hb
  simp [setO, this]
theorem setO_below {W w : World} {B b : Nat} {o : Obj} (h : Below B W w) (hb : B ≤ b) : Below B W (setO w b o) :=
  ⟨h.os, h.tape, h.output, by simpa [setO] using h.size, fun k hk => by
    have := h.block k hk
    rw [← this]
    simp only [setO]
    rw [Array.getElem?_setIfInBounds_ne (by omega)]⟩
def SortsIs (w : World) (e : Ending) (w' : World) : Prop := ∃ g, e = .returned (.map (some g)) ∧ w'.heap[g]? = some sortsO ∧ Below w.heap.size w w'
theorem sorts_any (w : World) : Calls Try.prog 72 #[] w (SortsIs w) := by
  obtain ⟨w0, e0⟩ : ∃ w0, w.alloc (.map #[] 0) = w0 := ⟨_, rfl⟩
  have k0 : w0.heap[w.heap.size]? = some (.map #[] 0) := by rw [← e0]; exact heap_alloc_new w _
  have b0 : Below w.heap.size w w0 := by rw [← e0]; exact (Below.refl _ _).alloc (Nat.le_refl _) _
  have r1 := put_u8 w0 w.heap.size _ _ 0 2 k0 (findU8 _ _ _ (by simp))
  have k1 := setO_at (.map (#[].push ⟨.int .u8 0, .int .i64 2, 0⟩) 1) k0
  have b1 := setO_below (o := .map (#[].push ⟨.int .u8 0, .int .i64 2, 0⟩) 1) b0 (Nat.le_refl _)
  simp only [List.push_toArray, List.nil_append, List.cons_append, Nat.reduceAdd] at r1 k1 b1
  obtain ⟨w1, e1⟩ : ∃ v, setO w0 w.heap.size (.map #[⟨.int .u8 0, .int .i64 2, 0⟩] 1) = v := ⟨_, rfl⟩
  rw [e1] at r1 k1 b1
  clear e1
  have r2 := put_u8 w1 w.heap.size _ _ 3 3 k1 (findU8 _ _ _ (by simp))
  have k2 := setO_at (.map (#[⟨.int .u8 0, .int .i64 2, 0⟩].push ⟨.int .u8 3, .int .i64 3, 1⟩) 2) k1
  have b2 := setO_below (o := .map (#[⟨.int .u8 0, .int .i64 2, 0⟩].push ⟨.int .u8 3, .int .i64 3, 1⟩) 2) b1 (Nat.le_refl _)
  simp only [List.push_toArray, List.nil_append, List.cons_append, Nat.reduceAdd] at r2 k2 b2
  obtain ⟨w2, e2⟩ : ∃ v, setO w1 w.heap.size (.map #[⟨.int .u8 0, .int .i64 2, 0⟩, ⟨.int .u8 3, .int .i64 3, 1⟩] 2) = v := ⟨_, rfl⟩
  rw [e2] at r2 k2 b2
  clear e2
  have r3 := put_u8 w2 w.heap.size _ _ 8 1 k2 (findU8 _ _ _ (by simp))
  have k3 := setO_at (.map (#[⟨.int .u8 0, .int .i64 2, 0⟩, ⟨.int .u8 3, .int .i64 3, 1⟩].push ⟨.int .u8 8, .int .i64 1, 2⟩) 3) k2
  have b3 := setO_below (o := .map (#[⟨.int .u8 0, .int .i64 2, 0⟩, ⟨.int .u8 3, .int .i64 3, 1⟩].push ⟨.int .u8 8, .int .i64 1, 2⟩) 3) b2 (Nat.le_refl _)
  simp only [List.push_toArray, List.nil_append, List.cons_append, Nat.reduceAdd] at r3 k3 b3
  obtain ⟨w3, e3⟩ : ∃ v, setO w2 w.heap.size (.map #[⟨.int .u8 0, .int .i64 2, 0⟩, ⟨.int .u8 3, .int .i64 3, 1⟩, ⟨.int .u8 8, .int .i64 1, 2⟩] 3) = v := ⟨_, rfl⟩
  rw [e3] at r3 k3 b3
  clear e3
  have r4 := put_u8 w3 w.heap.size _ _ 11 3 k3 (findU8 _ _ _ (by simp))
  have k4 := setO_at (.map (#[⟨.int .u8 0, .int .i64 2, 0⟩, ⟨.int .u8 3, .int .i64 3, 1⟩, ⟨.int .u8 8, .int .i64 1, 2⟩].push ⟨.int .u8 11, .int .i64 3, 3⟩) 4) k3
  have b4 := setO_below (o := .map (#[⟨.int .u8 0, .int .i64 2, 0⟩, ⟨.int .u8 3, .int .i64 3, 1⟩, ⟨.int .u8 8, .int .i64 1, 2⟩].push ⟨.int .u8 11, .int .i64 3, 3⟩) 4) b3 (Nat.le_refl _)
  simp only [List.push_toArray, List.nil_append, List.cons_append, Nat.reduceAdd] at r4 k4 b4
  obtain ⟨w4, e4⟩ : ∃ v, setO w3 w.heap.size (.map #[⟨.int .u8 0, .int .i64 2, 0⟩, ⟨.int .u8 3, .int .i64 3, 1⟩, ⟨.int .u8 8, .int .i64 1, 2⟩, ⟨.int .u8 11, .int .i64 3, 3⟩] 4) = v := ⟨_, rfl⟩
  rw [e4] at r4 k4 b4
  clear e4
  have r5 := put_u8 w4 w.heap.size _ _ 12 3 k4 (findU8 _ _ _ (by simp))
  have k5 := setO_at (.map (#[⟨.int .u8 0, .int .i64 2, 0⟩, ⟨.int .u8 3, .int .i64 3, 1⟩, ⟨.int .u8 8, .int .i64 1, 2⟩, ⟨.int .u8 11, .int .i64 3, 3⟩].push ⟨.int .u8 12, .int .i64 3, 4⟩) 5) k4
  have b5 := setO_below (o := .map (#[⟨.int .u8 0, .int .i64 2, 0⟩, ⟨.int .u8 3, .int .i64 3, 1⟩, ⟨.int .u8 8, .int .i64 1, 2⟩, ⟨.int .u8 11, .int .i64 3, 3⟩].push ⟨.int .u8 12, .int .i64 3, 4⟩) 5) b4 (Nat.le_refl _)
  simp only [List.push_toArray, List.nil_append, List.cons_append, Nat.reduceAdd] at r5 k5 b5
  obtain ⟨w5, e5⟩ : ∃ v, setO w4 w.heap.size (.map #[⟨.int .u8 0, .int .i64 2, 0⟩, ⟨.int .u8 3, .int .i64 3, 1⟩, ⟨.int .u8 8, .int .i64 1, 2⟩, ⟨.int .u8 11, .int .i64 3, 3⟩, ⟨.int .u8 12, .int .i64 3, 4⟩] 5) = v := ⟨_, rfl⟩
  rw [e5] at r5 k5 b5
  clear e5
  have K5 := Lib.hid k5
  have B5 := Lib.hid b5
  have hmk := run_makeMap_plain (P := Try.prog) w 104
  rw [e0] at hmk
  clear k0 k1 k2 k3 k4 k5 b0 b1 b2 b3 b4 b5
  go_enter Try.func72, Try.ntmps72
  go_wp2_with fail
  go_ret
  exact ⟨_, rfl, K5.out, B5.out⟩

/-- What stands in the map at a Type. -/
def kindM (ty : Int) : Int := if ty = 0 then 2 else if ty = 3 then 3 else if ty = 8 then 1 else if ty = 11 then 3 else if ty = 12 then 3 else 0
theorem look_sorts (w : World) (g : Nat) (ty y : Int) (hg : w.heap[g]? = some sortsO) (hy : kindM ty = y) : (Instr.lookup 104 (.map (some g)) (.int .u8 ty) false).run Try.prog w = .ok (.int .i64 y) w := by
  refine look_u8 w g _ _ ty y hg ?_
  subst hy
  by_cases h0 : ty = 0
  · subst h0; exact .inr ⟨0, rfl⟩
  by_cases h3 : ty = 3
  · subst h3; exact .inr ⟨1, rfl⟩
  by_cases h8 : ty = 8
  · subst h8; exact .inr ⟨2, rfl⟩
  by_cases h11 : ty = 11
  · subst h11; exact .inr ⟨3, rfl⟩
  by_cases h12 : ty = 12
  · subst h12; exact .inr ⟨4, rfl⟩
  exact .inl ⟨findU8 _ _ _ (by simp [h0, h3, h8, h11, h12]), by unfold kindM; rw [if_neg h0, if_neg h3, if_neg h8, if_neg h11, if_neg h12]⟩
theorem sort_kind (ty cd : Int) : sortM ty cd = if kindM ty ≠ 3 ∧ cd ≠ 0 then 0 else kindM ty := by
  unfold sortM kindM
  by_cases h0 : ty = 0
  · subst h0; by_cases hc : cd = 0 <;> simp [hc]
  by_cases h3 : ty = 3
  · subst h3; simp
  by_cases h8 : ty = 8
  · subst h8; by_cases hc : cd = 0 <;> simp [hc]
  by_cases h11 : ty = 11
  · subst h11; simp
  by_cases h12 : ty = 12
  · subst h12; simp
  simp [h0, h3, h8, h11, h12]
theorem anyH_mono {P : Program} {md : Region.Mode} {ops : Array Oper} {Q : Exit → Act → World → Prop} {S S' : World → Prop} (hS : ∀ w, S' w → S w) :
    ∀ (fuel : Nat) (listed : Array Bool) (a : Act) (w : World), wpAnyH P md ops Q S' fuel listed a w → wpAnyH P md ops Q S fuel listed a w
  | 0, _, _, _, h => h
  | fuel + 1, _, _, _, h => ⟨h.1, fun i hi => wpOp_mono (fun a' w' h' => ⟨hS w' h'.1, anyH_mono hS fuel _ a' w' h'.2⟩) (h.2 i hi)⟩
theorem sort8_any (ty cd rs : Int) (A : Option Addr) (n c : Nat) (x : Int) (w : World) (hx : sortM ty cd = x) :
    Calls Try.prog 38 #[.agg #[.int .u8 ty, .int .u8 cd, .int .u32 rs, .slice A n c]] w (IntIs x w) := by
  rw [sort_kind] at hx
  obtain ⟨y, hy⟩ : ∃ y, kindM ty = y := ⟨_, rfl⟩
  rw [hy] at hx
  have Hy := Lib.hid hy
  clear hy
  obtain ⟨z, hz⟩ : ∃ z, w.heap.size = z := ⟨_, rfl⟩
  obtain ⟨w0, ew⟩ : ∃ w0, w.alloc (.cells #[.int .u8 ty, .int .u8 cd, .int .u32 rs, .slice A n c] 50) = w0 := ⟨_, rfl⟩
  have Hb0 := Lib.hid (show Below w.heap.size w w0.drew by rw [← ew]; exact ((Below.refl _ _).alloc (Nat.le_refl _) _).drew)
  have HK := Lib.hid (show w0.drew.heap[z]? = some (.cells #[.int .u8 ty, .int .u8 cd, .int .u32 rs, .slice A n c] 50 (0, 0)) by rw [← ew, ← hz]; exact heap_alloc_new w _)
  go_enter Try.func38, Try.ntmps38
  go_upto_region 1 with (fail)
  try simp only [ew, hz]
  refine wp_region_held_drew (S := fun w' => w'.cell? ⟨z, 0, none⟩ = some (.int .u8 ty)) (by kernel_rfl) (cells4 HK.out).1 (fun hHeld => ?_)
  obtain ⟨wd, ewd⟩ : ∃ wd, w0.drew = wd := ⟨_, rfl⟩
  rw [ewd] at Hb0 HK hHeld ⊢
  clear ewd ew hz
  refine tk 1 ?_ rfl ?_ ?_
  rotate_left
  · intro w' hSw; (go_simp <;> (with_reducible rfl))
  try simp only [Act.put, putL]
  refine tk 2 ?_ rfl ?_ ?_
  rotate_left
  · intro w' hSw; (go_simp <;> (with_reducible rfl))
  try simp only [Act.put, putL]
  refine tkC 0 rfl (fun K hK => ?_)
  go_simp
  (refine (sorts_any _).mono ?_; rintro e w1 ⟨g, rfl, hg, hb1⟩; have HG := Lib.hid hg; have Hb1 := Lib.hid hb1; clear hg hb1)
  refine hK.out _ _ ?_ (fun hHeld => ?_)
  · exact (cells4 (blk_on HK.out Hb1.out)).1
  clear hK K
  try simp only [Act.put, putL]
  refine anyH_mono (S' := fun w' => w'.cell? ⟨z, 0, none⟩ = some (.int .u8 ty) ∧ w'.heap[g]? = some sortsO) (fun _ h => h.1) _ _ _ _ ?_
  have hHeld := And.intro (cells4 (blk_on HK.out Hb1.out)).1 HG.out
  have hlook := fun W h => look_sorts W g ty y h Hy.out
  refine tk 3 ?_ rfl ?_ ?_
  rotate_left
  · intro w' hSw; (go_simp <;> (with_reducible rfl))
  try simp only [Act.put, putL]
  refine tk 4 ?_ rfl ?_ ?_
  rotate_left
  · intro w' hSw; (go_simp <;> (with_reducible rfl))
  try simp only [Act.put, putL]
  refine wpAnyH_done (by kernel_rfl) ?_ _
  by_cases h3 : y = 3
  · have h3b : (y != 3) = false := by simp [h3]
    have Hx := Lib.hid (show x = y by rw [← hx]; simp [h3])
    clear hx h3
    obtain ⟨c0, c1, c2, c3⟩ := cells4 (blk_on HK.out Hb1.out)
    have Hb := Lib.hid (below_trans Hb0.out Hb1.out)
    clear hlook hHeld HG Hb1
    go_wp2_with fail
    go_ret
    exact ⟨by rw [Hx.out]; rfl, Hb.out⟩
  · have h3b : (y != 3) = true := by simpa using h3
    by_cases h0 : cd = 0
    · have h0b : (cd != 0) = false := by simp [h0]
      have Hx := Lib.hid (show x = y by rw [← hx]; simp [h0])
      clear hx h3 h0
      obtain ⟨c0, c1, c2, c3⟩ := cells4 (blk_on HK.out Hb1.out)
      have Hb := Lib.hid (below_trans Hb0.out Hb1.out)
      clear hlook hHeld HG Hb1
      go_wp2_with fail
      go_ret
      exact ⟨by rw [Hx.out]; rfl, Hb.out⟩
    · have h0b : (cd != 0) = true := by simpa using h0
      have Hx := Lib.hid (show x = 0 by rw [← hx]; simp [h0, h3])
      clear hx h3 h0
      obtain ⟨c0, c1, c2, c3⟩ := cells4 (blk_on HK.out Hb1.out)
      have Hb := Lib.hid (below_trans Hb0.out Hb1.out)
      clear hlook hHeld HG Hb1
      go_wp2_with fail
      go_ret
      exact ⟨by rw [Hx.out]; rfl, Hb.out⟩
end Go.Proofs.Ytoegfgbalcholaa

/-
  InnerCalls, over the face (stage 16, written ahead).
-/
namespace Go.Proofs.Ytoegfgbalcholaa.innerCallsW
set_option maxRecDepth 10000
open Go.ChangeShapes Go.WideShapes Go.ChangeAt Go.RowKit
set_option linter.unusedVariables false
set_option linter.unusedSimpArgs false

/-- What the long test asks of memory. -/
structure Held16 (w : World) (z1 z2 : Nat) (T : Tu) (S : Int) (Ax Ay Az Ad : Option Addr) (m k n : Nat) (L Z l : List Int) : Prop where
  h1 : w.heap[z1]? = some (.cells #[.int .u8 T.pr, .int .u32 T.sr, .int .u32 T.ds, .int .u16 T.sp, .int .u16 T.dp, .int .u32 S] 28 (0, 0))
  h2 : w.heap[z2]? = some (.cells #[.int .u8 T.pr, .int .u32 T.sr, .int .u32 T.ds, .int .u16 T.sp, .int .u16 T.dp, .int .u32 S] 32 (0, 0))
  x : Rd w Ax m L
  y : Rd w Ay m L
  z : Rd w Az k Z
  d : Rd w Ad n l
theorem Held16.below {w w' : World} {z1 z2 : Nat} {T : Tu} {S : Int} {Ax Ay Az Ad : Option Addr} {m k n : Nat} {L Z l : List Int} (h : Held16 w z1 z2 T S Ax Ay Az Ad m k n L Z l) (hb : Below w.heap.size w w') : Held16 w' z1 z2 T S Ax Ay Az Ad m k n L Z l :=
  ⟨blk_on h.h1 hb, blk_on h.h2 hb, h.x.below hb, h.y.below hb, h.z.below hb, h.d.below hb⟩
set_option maxHeartbeats 4000000 in
theorem walk (hRead : ReadF16) (hRw : RwF16) (hOf : OfF16) (hAw : AwF16) (w : World) (v : Value) (hv : BytesAt w v) (v1 : Value) (h1 : TuAt w v1) (sh : Int) (w2 : (Lit.int .u32 sh).wf = true) (many : Int) (w3 : (Lit.int .i64 many).wf = true) :
    Calls Try.prog 3 #[v, v1, .int .u32 sh, .int .i64 many] w fun e w' => e = .returned (.bool true) ∧ Below w.heap.size w w' := by
  obtain ⟨A, n, c, l, rfl, hnc, hcm, hr⟩ := hv
  obtain ⟨t, rfl, ht⟩ := h1
  have hn : n ≤ 140737488351232 := Nat.le_trans hnc hcm
  have hsh := bounds_u32 w2
  have hmany := bounds_i64 w3
  have HRead := Lib.hid hRead
  have HRw := Lib.hid hRw
  have HOf := Lib.hid hOf
  have HAw := Lib.hid hAw
  have HT := Lib.hid ht
  have Hsh := Lib.hid (show 0 ≤ sh ∧ sh < 4294967296 by omega)
  have Hmany := Lib.hid (show -9223372036854775808 ≤ many ∧ many ≤ 9223372036854775807 by omega)
  have Hcc := Lib.hid (show n ≤ c ∧ c ≤ maxLen from ⟨hnc, by simp [maxLen]; omega⟩)
  obtain ⟨z0, hz0⟩ : ∃ z, w.heap.size = z := ⟨_, rfl⟩
  obtain ⟨w0, ew0⟩ : ∃ w0, w.alloc (.cells #[.int .u8 t.pr, .int .u32 t.sr, .int .u32 t.ds, .int .u16 t.sp, .int .u16 t.dp] 26) = w0 := ⟨_, rfl⟩
  have hb0 : Below w.heap.size w w0 := by rw [← ew0]; exact (Below.refl _ _).alloc (Nat.le_refl _) _
  have HZ0 := Lib.hid (show w0.heap[z0]? = some (.cells #[.int .u8 t.pr, .int .u32 t.sr, .int .u32 t.ds, .int .u16 t.sp, .int .u16 t.dp] 26 (0, 0)) by rw [← ew0, ← hz0]; exact heap_alloc_new w _)
  have HR0 := Lib.hid (hr.below hb0)
  have HB0 := Lib.hid hb0
  have Hby := Lib.hid hr.byte
  have Ew0 := Lib.hid ew0
  have Hz0 := Lib.hid hz0
  obtain ⟨T, eT⟩ : ∃ T, qT l = T := ⟨_, rfl⟩
  obtain ⟨S, eS⟩ : ∃ S, qS l = S := ⟨_, rfl⟩
  obtain ⟨E, eE⟩ : ∃ E, errQ l = E := ⟨_, rfl⟩
  obtain ⟨L, eL⟩ : ∃ L, rwR l t sh = L := ⟨_, rfl⟩
  obtain ⟨m, em⟩ : ∃ m, L.length = m := ⟨_, rfl⟩
  obtain ⟨X, eX⟩ : ∃ X, errR l t = X := ⟨_, rfl⟩
  obtain ⟨Z, eZ⟩ : ∃ Z, ofL l many = Z := ⟨_, rfl⟩
  obtain ⟨k, ek⟩ : ∃ k, Z.length = k := ⟨_, rfl⟩
  have HbZ := Lib.hid (show Bytes Z by rw [← eZ]; exact fun x hx => hr.byte x (List.mem_of_mem_take hx))
  have HbL := Lib.hid (show Bytes L by
    rw [← eL]; unfold rwR
    by_cases h0 : errR l t = 0
    · rw [if_pos h0]
      have he : errQ l = 0 := by
        unfold errR at h0
        by_cases h : errQ l ≠ 0
        · rw [if_pos h] at h0; exact absurd h0 h
        · exact Classical.not_not.1 h
      exact (rwQ_is hr.byte he ht).byte
    · rw [if_neg h0]; intro x hx; cases hx)
  have HrT := Lib.hid eT; have HrS := Lib.hid eS; have HrE := Lib.hid eE; have HL := Lib.hid eL; have Hm := Lib.hid em; have HX := Lib.hid eX; have HZ := Lib.hid eZ; have Hk := Lib.hid ek
  have Hkn := Lib.hid (show k ≤ n by rw [← ek, ← eZ, ofL_len, ← hr.len]; unfold ofN; split; omega; split <;> omega)
  have Hmn := Lib.hid (show m ≤ n by
    rw [← em, ← eL]; unfold rwR
    by_cases h0 : errR l t = 0
    · rw [if_pos h0]
      have he : errQ l = 0 := by
        unfold errR at h0
        by_cases h : errQ l ≠ 0
        · rw [if_pos h] at h0; exact absurd h0 h
        · exact Classical.not_not.1 h
      rw [(rwQ_is hr.byte he ht).len, hr.len]; exact Nat.le_refl _
    · rw [if_neg h0]; exact Nat.zero_le _)
  clear hRead hRw hOf hAw ht hsh hmany hnc hcm hz0 ew0 hb0 hr eT eS eE eL em eX eZ ek w2 w3
  go_enter Try.func3, Try.ntmps3
  go_upto_region 1 with (fail)
  rw [Ew0.out]
  try rw [Hz0.out]
  clear Ew0
  obtain ⟨j0, j1, j2, j3, j4⟩ := tu_at HZ0.out
  go_wp2_with (refine wpList_app rfl (.const (.slice none 0 0)) (.tmp 21) rfl w0.heap.size none A 0 0 n c [] l rfl rfl (OwnB.nil _ _) HR0.out (by omega) (Nat.le_refl _) ?_; intro A1 c1 w1 ho1 _ hb1 _)
  try simp only [Nat.zero_add]
  have HO1 := Lib.hid (show OwnB w1 w0.heap.size A1 n c1 l by simpa using ho1)
  have HB1 := Lib.hid hb1
  have Hc1 := Lib.hid (show n ≤ c1 ∧ c1 ≤ maxLen from ⟨HO1.out.cap, HO1.out.capMax⟩)
  have HRm := Lib.hid (HO1.out.rd Hby.out)
  clear ho1 hb1 j0 j1 j2 j3 j4
  refine (HRead.out A1 n c1 l T S E _ Hc1.out hn HRm.out HrT.out HrS.out HrE.out).mono ?_
  rintro e w2 ⟨rfl, hb2⟩
  obtain ⟨z1, ez1⟩ : ∃ y, w2.heap.size = y := ⟨_, rfl⟩
  obtain ⟨wa2, ew2⟩ : ∃ v, w2.alloc (.cells #[.int .u8 T.pr, .int .u32 T.sr, .int .u32 T.ds, .int .u16 T.sp, .int .u16 T.dp, .int .u32 S] 28) = v := ⟨_, rfl⟩
  have HK2 := Lib.hid (show wa2.heap[z1]? = some (.cells #[.int .u8 T.pr, .int .u32 T.sr, .int .u32 T.ds, .int .u16 T.sp, .int .u16 T.dp, .int .u32 S] 28 (0, 0)) by rw [← ew2, ← ez1]; exact heap_alloc_new w2 _)
  have hba : Below w2.heap.size w2 wa2 := by rw [← ew2]; exact (Below.refl _ _).alloc (Nat.le_refl _) _
  have HB12 := Lib.hid (show Below w1.heap.size w1 wa2 from below_trans hb2 hba)
  have Ew2 := Lib.hid ew2
  have Ez2 := Lib.hid ez1
  clear ew2 ez1 hba hb2
  go_upto_region 3 with (fail)
  rw [Ew2.out]
  try rw [Ez2.out]
  clear Ew2 Ez2
  go_wp2_with fail
  refine (rread16_any A n c l T S E _ (Nat.le_trans hn (by decide)) (HR0.out.below (below_trans HB1.out HB12.out)) HrT.out HrS.out HrE.out).mono ?_
  rintro e w3 ⟨rfl, hb3⟩
  obtain ⟨z2, ez2⟩ : ∃ y, w3.heap.size = y := ⟨_, rfl⟩
  obtain ⟨wa3, ew3⟩ : ∃ v, w3.alloc (.cells #[.int .u8 T.pr, .int .u32 T.sr, .int .u32 T.ds, .int .u16 T.sp, .int .u16 T.dp, .int .u32 S] 32) = v := ⟨_, rfl⟩
  have HK3 := Lib.hid (show wa3.heap[z2]? = some (.cells #[.int .u8 T.pr, .int .u32 T.sr, .int .u32 T.ds, .int .u16 T.sp, .int .u16 T.dp, .int .u32 S] 32 (0, 0)) by rw [← ew3, ← ez2]; exact heap_alloc_new w3 _)
  have hba : Below w3.heap.size w3 wa3 := by rw [← ew3]; exact (Below.refl _ _).alloc (Nat.le_refl _) _
  have HB13 := Lib.hid (show Below wa2.heap.size wa2 wa3 from below_trans hb3 hba)
  have Ew3 := Lib.hid ew3
  have Ez3 := Lib.hid ez2
  clear ew3 ez2 hba hb3
  go_upto_region 4 with (fail)
  rw [Ew3.out]
  try rw [Ez3.out]
  clear Ew3 Ez3
  have HBa := Lib.hid (below_trans HB12.out HB13.out)
  obtain ⟨j0, j1, j2, j3, j4⟩ := tu_at (blk_on HZ0.out (below_trans HB1.out HBa.out))
  go_wp2_with fail
  refine (HRw.out A1 n c1 l t sh _ L m X Hc1.out hn (HRm.out.below HBa.out) HT.out Hsh.out HL.out Hm.out HX.out).mono ?_
  rintro e w5 ⟨A5, c5, rfl, ho5, hb5⟩
  have HO5 := Lib.hid ho5
  have HB35 := Lib.hid hb5
  have HB5 := Lib.hid (below_trans HBa.out hb5)
  clear ho5 hb5 j0 j1 j2 j3 j4
  obtain ⟨j0, j1, j2, j3, j4⟩ := tu_at (blk_on HZ0.out (below_trans HB1.out HB5.out))
  go_wp2_with fail
  refine (rrw16_any A n c l t sh _ L m X hn (HR0.out.below (below_trans HB1.out HB5.out)) HT.out Hsh.out HL.out Hm.out HX.out).mono ?_
  rintro e w6 ⟨A6, c6, rfl, ho6, hb6⟩
  have HO6 := Lib.hid ho6
  have HB56 := Lib.hid hb6
  have HB6 := Lib.hid (below_trans HB5.out hb6)
  clear ho6 hb6 j0 j1 j2 j3 j4
  go_wp2_with fail
  refine (HOf.out A1 n c1 l many Z k _ Hc1.out hn (HRm.out.below HB6.out) Hmany.out HZ.out Hk.out).mono ?_
  rintro e w7 ⟨A7, c7, rfl, hc7, hcm7, ho7, hb7⟩
  have HO7 := Lib.hid ho7
  have HB67 := Lib.hid hb7
  have HB7 := Lib.hid (below_trans HB6.out hb7)
  have HB37 := Lib.hid (below_trans (below_trans HB35.out HB56.out) hb7)
  have HS7 := Lib.hid (show Held16 w7 z1 z2 T S A5 A6 A7 A m k n L Z l from
    ⟨blk_on (blk_on HK2.out HB13.out) HB37.out, blk_on HK3.out HB37.out, ((HO5.out.rd HbL.out).below HB56.out).below hb7, (HO6.out.rd HbL.out).below hb7, ho7.rd HbZ.out, HR0.out.below (below_trans HB1.out HB7.out)⟩)
  clear hc7 hcm7 ho7 hb7
  have hneq : ∀ W : World, (binOp .neq 32 (.agg #[.int .u8 T.pr, .int .u32 T.sr, .int .u32 T.ds, .int .u16 T.sp, .int .u16 T.dp, .int .u32 S]) (.agg #[.int .u8 T.pr, .int .u32 T.sr, .int .u32 T.ds, .int .u16 T.sp, .int .u16 T.dp, .int .u32 S])).run Try.prog W = .ok (.bool false) W := fun W => by
    rw [run_neq_struct, run_equalIn_struct W 9999 32 _ _ (by kernel_rfl) (by kernel_rfl)]
    go_simp
  go_upto_region 7 with (fail)
  refine wp_region_held_drew (S := fun w' => Held16 w' z1 z2 T S A5 A6 A7 A m k n L Z l) (by kernel_rfl) (HS7.out.below (Below.refl _ _).drew) (fun hHeld => ?_)
  obtain ⟨wd, ewd⟩ : ∃ wd, w7.drew = wd := ⟨_, rfl⟩
  have HBd := Lib.hid (show Below w7.heap.size w7 wd by rw [← ewd]; exact (Below.refl _ _).drew)
  have HSd := Lib.hid (HS7.out.below HBd.out)
  rw [ewd] at hHeld ⊢
  clear ewd
  refine tk 0 (.agg #[.int .u8 T.pr, .int .u32 T.sr, .int .u32 T.ds, .int .u16 T.sp, .int .u16 T.dp, .int .u32 S]) rfl (fun w' hSw => exec_row 28 (.tmp 10) rfl z1 _ _ _ _ (hSw.h1) rfl Try.underlying28 rfl (by kernel_rfl)) ?_
  try simp only [Act.put, putL]
  refine tk 1 (.agg #[.int .u8 T.pr, .int .u32 T.sr, .int .u32 T.ds, .int .u16 T.sp, .int .u16 T.dp, .int .u32 S]) rfl (fun w' hSw => exec_row 32 (.tmp 12) rfl z2 _ _ _ _ (hSw.h2) rfl Try.underlying32 rfl (by kernel_rfl)) ?_
  try simp only [Act.put, putL]
  refine tk 2 ?_ rfl ?_ ?_
  rotate_left
  · intro w' hSw; (go_simp <;> (with_reducible rfl))
  try simp only [Act.put, putL]
  refine tk 3 ?_ rfl ?_ ?_
  rotate_left
  · intro w' hSw; (go_simp <;> (with_reducible rfl))
  try simp only [Act.put, putL]
  refine tk 4 ?_ rfl ?_ ?_
  rotate_left
  · intro w' hSw; (go_simp <;> (with_reducible rfl))
  try simp only [Act.put, putL]
  refine tk 5 ?_ rfl ?_ ?_
  rotate_left
  · intro w' hSw; (go_simp <;> (with_reducible rfl))
  try simp only [Act.put, putL]
  refine tk 6 ?_ rfl ?_ ?_
  rotate_left
  · intro w' hSw; (go_simp <;> (with_reducible rfl))
  try simp only [Act.put, putL]
  refine tk 7 ?_ rfl ?_ ?_
  rotate_left
  · intro w' hSw; (go_simp <;> (with_reducible rfl))
  try simp only [Act.put, putL]
  refine tk 8 ?_ rfl ?_ ?_
  rotate_left
  · intro w' hSw; (go_simp <;> (with_reducible rfl))
  try simp only [Act.put, putL]
  refine tk 9 ?_ rfl ?_ ?_
  rotate_left
  · intro w' hSw; (go_simp <;> (with_reducible rfl))
  try simp only [Act.put, putL]
  refine tk 10 (.string (strOfNums L)) rfl ?_ ?_
  · intro w' hSw; have hcv := conv_rd hSw.x c5; (go_simp <;> (with_reducible rfl))
  try simp only [Act.put, putL]
  refine tk 11 ?_ rfl ?_ ?_
  rotate_left
  · intro w' hSw; (go_simp <;> (with_reducible rfl))
  try simp only [Act.put, putL]
  refine tk 12 (.string (strOfNums L)) rfl ?_ ?_
  · intro w' hSw; have hcv := conv_rd hSw.y c6; (go_simp <;> (with_reducible rfl))
  try simp only [Act.put, putL]
  refine tk 13 ?_ rfl ?_ ?_
  rotate_left
  · intro w' hSw; (go_simp <;> (with_reducible rfl))
  try simp only [Act.put, putL]
  refine tk 14 ?_ rfl ?_ ?_
  rotate_left
  · intro w' hSw; (go_simp <;> (with_reducible rfl))
  try simp only [Act.put, putL]
  refine tk 15 ?_ rfl ?_ ?_
  rotate_left
  · intro w' hSw; (go_simp <;> (with_reducible rfl))
  try simp only [Act.put, putL]
  refine tk 16 ?_ rfl ?_ ?_
  rotate_left
  · intro w' hSw; (go_simp <;> (with_reducible rfl))
  try simp only [Act.put, putL]
  refine tk 17 ?_ rfl ?_ ?_
  rotate_left
  · intro w' hSw; (go_simp <;> (with_reducible rfl))
  try simp only [Act.put, putL]
  refine tk 18 ?_ rfl ?_ ?_
  rotate_left
  · intro w' hSw; (go_simp <;> (with_reducible rfl))
  try simp only [Act.put, putL]
  refine tk 19 ?_ rfl ?_ ?_
  rotate_left
  · intro w' hSw; (go_simp <;> (with_reducible rfl))
  try simp only [Act.put, putL]
  refine tk 20 ?_ rfl ?_ ?_
  rotate_left
  · intro w' hSw; (go_simp <;> (with_reducible rfl))
  try simp only [Act.put, putL]
  refine tk 21 ?_ rfl ?_ ?_
  rotate_left
  · intro w' hSw; (go_simp <;> (with_reducible rfl))
  try simp only [Act.put, putL]
  refine tk 22 (.string (strOfNums Z)) rfl ?_ ?_
  · intro w' hSw; have hcv := conv_rd hSw.z c7; (go_simp <;> (with_reducible rfl))
  try simp only [Act.put, putL]
  refine tk 23 ?_ rfl ?_ ?_
  rotate_left
  · intro w' hSw; (go_simp <;> (with_reducible rfl))
  try simp only [Act.put, putL]
  refine tk 24 ?_ rfl ?_ ?_
  rotate_left
  · intro w' hSw; (go_simp <;> (with_reducible rfl))
  try simp only [Act.put, putL]
  refine tkC 25 rfl (fun K hK => ?_)
  go_simp
  (refine (rof16_any A n c l many Z k _ hn HSd.out.d Hmany.out HZ.out Hk.out).mono ?_; rintro e w9 ⟨A9, c9, rfl, hc9, hcm9, ho9, hb9⟩; have HS9 := Lib.hid (HSd.out.below hb9); have HR9 := Lib.hid (ho9.rd HbZ.out); have HB9 := Lib.hid (below_trans HBd.out hb9); clear hc9 hcm9 ho9 hb9)
  refine hK.out _ _ ?_ (fun hHeld => ?_)
  · exact HS9.out
  clear hK K
  try simp only [Act.put, putL]
  refine anyH_mono (S' := fun w' => Held16 w' z1 z2 T S A5 A6 A7 A m k n L Z l ∧ Rd w' A9 k Z) (fun _ h => h.1) _ _ _ _ ?_
  have hHeld := And.intro hHeld HR9.out
  refine tk 26 (.string (strOfNums Z)) rfl ?_ ?_
  · intro w' hSw; have hcv := conv_rd hSw.2 c9; (go_simp <;> (with_reducible rfl))
  try simp only [Act.put, putL]
  refine tk 27 ?_ rfl ?_ ?_
  rotate_left
  · intro w' hSw; (go_simp <;> (with_reducible rfl))
  try simp only [Act.put, putL]
  refine tk 28 ?_ rfl ?_ ?_
  rotate_left
  · intro w' hSw; (go_simp <;> (with_reducible rfl))
  try simp only [Act.put, putL]
  refine wpAnyH_done (by kernel_rfl) ?_ _
  clear hHeld hneq
  obtain ⟨B3, eB3⟩ : ∃ B, wa3.heap.size = B := ⟨_, rfl⟩
  have EB3 := Lib.hid eB3
  have HBy5 := Lib.hid (show ByRow w9 B3 A5 m by rw [← EB3.out]; exact (((ByRow.of HO5.out).below HB56.out).below HB67.out).below HB9.out)
  have HBy7 := Lib.hid (show ByRow w9 B3 A7 k by rw [← EB3.out]; exact ((ByRow.of HO7.out).mono (by have := HB35.out.size; have := HB56.out.size; omega)).below HB9.out)
  have HBo := Lib.hid (show Below B3 wa3 w9 by rw [← EB3.out]; exact below_trans HB37.out HB9.out)
  have hmi : (m : Int) ≤ 140737488351232 := by have := Hmn.out; omega
  have hki : (k : Int) ≤ 140737488351232 := by have := Hkn.out; omega
  clear eB3
  go_wp2_with fail
  go_loopg [19] m (fun gk i wx => ∃ j : Nat, Hid (gk + j = m) ∧ j ≤ m ∧ i = .int .i64 (j : Int) ∧ Hid (ByRow wx B3 A5 m) ∧ Hid (ByRow wx B3 A7 k) ∧ Hid (Below B3 wa3 wx))
  case atStart => exact ⟨0, rfl, Nat.zero_le _, rfl, HBy5, HBy7, HBo⟩
  case round =>
    clear HBy5 HBy7 HBo
    obtain ⟨j, hgk, hj, rfl, HBy5, HBy7, HBo⟩ := hrel
    by_cases hjm : j < m
    · obtain ⟨g, x0, eA, hgB, hidx, hcl, hfz⟩ := HBy5.out.index c5 j hjm
      have Hu2 := Lib.hid (fun v : Int => HBy5.out.set_ g j v)
      have Hw2 := Lib.hid (fun v : Int => HBy7.out.set_ g j v)
      have Hl2 := Lib.hid (fun v : Value => HBo.out.setCell (p := ⟨g, j, none⟩) hgB v)
      have hji : (j : Int) < (m : Int) := by omega
      have Hjm := Lib.hid hjm
      subst eA
      clear HBy5 HBy7 HBo hjm hgB
      go_wp2_with fail
      go_roundg (gk - 1)
      case measure => have := hgk.out; have := Hjm.out; omega
      case rel => exact ⟨j + 1, by have := hgk.out; have := Hjm.out; show gk - 1 + (j + 1) = _; omega, by have := Hjm.out; omega, by go_num, Lib.hid (Hu2.out _), Lib.hid (Hw2.out _), Lib.hid (Hl2.out _)⟩
    have hjm2 : ¬ (j : Int) < (m : Int) := by omega
    obtain ⟨wo, hwo⟩ : ∃ wo, wo = wr := ⟨_, rfl⟩
    subst hwo
    obtain ⟨j1, hj1⟩ : ∃ j1, j1 = j := ⟨_, rfl⟩
    clear hgk hj hj1
    go_wp2_with fail
    go_loopg [20] k (fun gk i wx => ∃ j : Nat, Hid (gk + j = k) ∧ j ≤ k ∧ i = .int .i64 (j : Int) ∧ Hid (ByRow wx B3 A5 m) ∧ Hid (ByRow wx B3 A7 k) ∧ Hid (Below B3 wa3 wx))
    case atStart => exact ⟨0, rfl, Nat.zero_le _, rfl, HBy5, HBy7, HBo⟩
    case round =>
      clear HBy5 HBy7 HBo hjm hjm2
      obtain ⟨j, hgk, hj, rfl, HBy5, HBy7, HBo⟩ := hrel
      by_cases hjm : j < k
      · obtain ⟨g, x0, eA, hgB, hidx, hcl, hfz⟩ := HBy7.out.index c7 j hjm
        have Hu2 := Lib.hid (fun v : Int => HBy5.out.set_ g j v)
        have Hw2 := Lib.hid (fun v : Int => HBy7.out.set_ g j v)
        have Hl2 := Lib.hid (fun v : Value => HBo.out.setCell (p := ⟨g, j, none⟩) hgB v)
        have hji : (j : Int) < (k : Int) := by omega
        have Hjm := Lib.hid hjm
        subst eA
        clear HBy5 HBy7 HBo hjm hgB
        go_wp2_with fail
        go_roundg (gk - 1)
        case measure => have := hgk.out; have := Hjm.out; omega
        case rel => exact ⟨j + 1, by have := hgk.out; have := Hjm.out; show gk - 1 + (j + 1) = _; omega, by have := Hjm.out; omega, by go_num, Lib.hid (Hu2.out _), Lib.hid (Hw2.out _), Lib.hid (Hl2.out _)⟩
      have hjm2 : ¬ (j : Int) < (k : Int) := by omega
      have HRe := Lib.hid (show Rd wr A1 n l from (HRm.out.below HBa.out).below (by rw [EB3.out]; exact HBo.out))
      have hc1' := conv_rd HRe.out c1
      have HBw := Lib.hid (show Below w.heap.size w wr from HB0.out.trans ((below_trans HB1.out HBa.out).mono (show w.heap.size ≤ w0.heap.size from HB0.out.size)) |>.trans ((by have h := HBo.out; rw [← EB3.out] at h; exact h : Below wa3.heap.size wa3 wr).mono (by have h1 := HB0.out.size; have h2 := HB1.out.size; have h3 := HBa.out.size; omega)))
      have hc2' := conv_rd ((HR0.out.below (below_trans HB1.out HBa.out)).below (by rw [EB3.out]; exact HBo.out)) c
      go_wp2_with fail
      refine (HAw.out _).mono ?_
      rintro e wz ⟨rfl, hbz⟩
      have HBz := Lib.hid (below_trans HBw.out hbz)
      go_wp2_with fail
      go_ret
      exact ⟨rfl, HBz.out⟩
end Go.Proofs.Ytoegfgbalcholaa.innerCallsW

/-
  The contract of culvertref06's Parse.
-/
namespace Go.Proofs.Ytoegfgbalcholaa
set_option maxRecDepth 10000
open Go.RowKit

/-- The rest of a row of bytes, s[lo:], as one run equation. -/
theorem Rd.rest {w : World} {A : Option Addr} {n c : Nat} {l : List Int} (h : Rd w A n l) (lo : Nat) (loi : Int) (h0 : 0 < n) (hlo : lo ≤ n) (hc : n ≤ c) (hcm : c ≤ maxLen) (el : loi = (lo : Int)) :
    ∃ A', (∀ W : World, (Instr.sliceAt 22 (.slice A n c) (some (.int .i64 loi)) none none).run Try.prog W = .ok (.slice A' (n - lo) (c - lo)) W) ∧ Rd w A' (n - lo) (l.drop lo) := by
  subst el
  obtain ⟨b, o, rfl, _, _⟩ := h.at_ h0
  unfold maxLen at hcm
  have i0 : (0 : Int) ≤ (lo : Int) := by omega
  have i1 : (lo : Int) ≤ (n : Int) := by omega
  have i2 : (n : Int) ≤ (c : Int) := by omega
  have i3 : lo ≤ c := by omega
  by_cases hl : lo = c
  · subst hl
    obtain rfl : n = lo := by omega
    refine ⟨some ⟨b, o, none⟩, fun W => by go_simp, ?_⟩
    rw [Nat.sub_self, List.drop_eq_nil_of_le (by rw [h.len]; omega)]
    exact Rd.nil _ _
  · have i4 : ¬ c = lo := fun e => hl e.symm
    refine ⟨some ⟨b, o + lo, none⟩, fun W => by go_simp, ?_⟩
    exact h.drop_ rfl (by omega)

/-- How many bytes it says stand ahead of the Data. -/
def offB (b : List Int) : Nat := (b.getD 12 0 / 16 * 4).toNat
/-- What is wrong with a segment's bytes. -/
def errSeg (src dst : Int) (b : List Int) : Int :=
  if 1480 < b.length then 3 else if b.length < 20 then 4 else if offB b < 20 then 5 else if b.length < offB b then 4
  else if sumL (pseudoL src dst 6 b.length ++ b) ≠ 65535 then 20 else if (parseO ((b.take (offB b)).drop 20)).2 ≠ 0 then 5 else 0
end Go.Proofs.Ytoegfgbalcholaa
