/-
  Texts laid together: HeldLast, SegParse, SegGood, TcpPart.
-/
import Derived.Test.YtoegfgbalcholaaGreatRows
import Derived.OrdersHeld
import Derived.Deep.RegionHeld
import Derived.Test.YtoegfgbalcholaaGreatZT11
import Derived.Test.YtoegfgbalcholaaGreatZT10
import Derived.Test.YtoegfgbalcholaaGreatZT06
import Derived.Test.YtoegfgbalcholaaGreatZT04
import Derived.Test.YtoegfgbalcholaaGreatZT01

/-
  A drawn region whose LAST operation turns what the region read (a store to a cell that it loads, an append onto a row that it reads): the condition S is asked behind every operation but that one. No function of the program.
-/
namespace Go.Proofs.YtoegfgbalcholaaGreat
set_option maxRecDepth 10000
section
variable {P : Program} {ops : Array Oper} {Q : Exit → Act → World → Prop} {md : Region.Mode} {S : World → Prop} {last : Nat}

/-- Whatever order is picked from here on, and S holds behind every operation that is carried out, but the last one. -/
def anyHL (P : Program) (md : Region.Mode) (ops : Array Oper) (Q : Exit → Act → World → Prop) (S : World → Prop) (last : Nat) : Nat → Array Bool → Act → World → Prop
  | 0, listed, a, w => Region.ready md ops listed = [] ∧ Q .normal a w
  | fuel + 1, listed, a, w =>
    (Region.ready md ops listed = [] → Q .normal a w) ∧
    ∀ i ∈ Region.ready md ops listed, wpOp P ops Q i (fun a' w' => (i ≠ last → S w') ∧ anyHL P md ops Q S last fuel (listed.setIfInBounds i true) a' w') a w
theorem wpAny_of_HL : ∀ (fuel : Nat) (listed : Array Bool) (a : Act) (w : World), anyHL P md ops Q S last fuel listed a w → wpAny P md ops Q fuel listed a w
  | 0, _, _, _, h => h
  | fuel + 1, _, _, _, h => ⟨h.1, fun i hi => wpOp_mono (fun a' w' h' => wpAny_of_HL fuel _ a' w' h'.2) (h.2 i hi)⟩

theorem anyHL_first {i : Nat} {oi : Oper} {v : Value} (hi : ops[i]? = some oi) (hil : i ≠ last) (hdep : ∃ ol, ops[last]? = some ol ∧ ∃ e ∈ ol.after, Region.binds md e = true ∧ e.on = i)
    (hsel : ∀ (j : Nat) (o : Oper) cs b, ops[j]? = some o → o.op ≠ .select cs b) (hQ : ∀ c a w, Q (.panic c) (a.put oi.dst v) w → Q (.panic c) a w) :
    ∀ (fuel : Nat) (listed : Array Bool) (a : Act) (w : World),
      (∀ j oj, ops[j]? = some oj → j ≠ i → listed.getD j true = false → (∀ e ∈ oj.after, Region.binds md e = true → e.on ≠ i) → oi.apart ops oj = true) →
      i ∈ Region.ready md ops listed → YieldsIf P ops S oi v a → S w →
      anyHL P md ops Q S last fuel (listed.setIfInBounds i true) (a.put oi.dst v) w → anyHL P md ops Q S last (fuel + 1) listed a w := by
  intro fuel
  induction fuel with
  | zero =>
    intro listed a w _ hr hy hS H
    refine ⟨fun h => (by rw [h] at hr; cases hr), fun j hj => ?_⟩
    by_cases hji : j = i
    · subst hji; exact hy.wpOp hi hS ⟨fun _ => hS, H⟩
    · have := ready_mono hj hji
      rw [H.1] at this
      cases this
  | succ fuel ih =>
    intro listed a w hfree hr hy hS H
    refine ⟨fun h => (by rw [h] at hr; cases hr), fun j hj => ?_⟩
    by_cases hji : j = i
    · subst hji; exact hy.wpOp hi hS ⟨fun _ => hS, H⟩
    · have h1 := H.2 j (ready_mono hj hji)
      obtain ⟨hjun, oj, hoj, hall⟩ := mem_ready.1 hj
      have hnot : ∀ e ∈ oj.after, Region.binds md e = true → e.on ≠ i := fun e he hb heq => by
        have h1 := hall e he hb
        have h0 := (mem_ready.1 hr).1
        rw [heq] at h1
        rcases Nat.lt_or_ge i listed.size with h' | h'
        · simp [h'] at h0 h1; rw [h0] at h1; cases h1
        · simp [Array.getElem?_eq_none h'] at h1
      have hjl : j ≠ last := by
        intro e
        subst e
        obtain ⟨ol, hol, e, he, hb, heq⟩ := hdep
        rw [hoj] at hol
        injection hol with hol
        subst hol
        exact hnot e he hb heq
      have h2 := wpOp_putIf hoj (hfree j oj hoj hji hjun hnot) (fun cs b => hsel i oi cs b hi) (fun cs b => hsel j oj cs b hoj) hQ hy h1
      have hfree' : ∀ k ok, ops[k]? = some ok → k ≠ i → (listed.setIfInBounds j true).getD k true = false →
          (∀ e ∈ ok.after, Region.binds md e = true → e.on ≠ i) → oi.apart ops ok = true := fun k ok hk hki hun hno => by
        refine hfree k ok hk hki ?_ hno
        by_cases hjk : j = k
        · subst hjk; exact hjun
        · rw [getD_set_ne true hjk] at hun; exact hun
      refine wpOp_mono (fun a' w' h3 => ⟨fun _ => h3.2.1 hjl, ih (listed.setIfInBounds j true) a' w' hfree' (ready_mono hr (Ne.symm hji)) h3.1 (h3.2.1 hjl) ?_⟩) h2
      rw [Array.setIfInBounds_comm _ _ hji]
      exact h3.2.2

/-- Whether the last operation waits for number i by an edge of its own. -/
def waitsFor (md : Region.Mode) (ops : Array Oper) (last i : Nat) : Bool := (i != last) && ((ops[last]?).map (fun o => o.after.any fun e => Region.binds md e && (e.on == i))).getD false
theorem waits_spec {i : Nat} (h : waitsFor md ops last i = true) : i ≠ last ∧ ∃ ol, ops[last]? = some ol ∧ ∃ e ∈ ol.after, Region.binds md e = true ∧ e.on = i := by
  unfold waitsFor at h
  rw [Bool.and_eq_true] at h
  refine ⟨by simpa using h.1, ?_⟩
  cases ho : ops[last]? with
  | none => rw [ho] at h; simp at h
  | some ol =>
    rw [ho] at h
    simp only [Option.map_some, Option.getD_some] at h
    obtain ⟨k, hk, hp⟩ := Array.any_eq_true.1 h.2
    rw [Bool.and_eq_true] at hp
    exact ⟨ol, rfl, ol.after[k], Array.getElem_mem hk, hp.1, by simpa using hp.2⟩
theorem anyHL_take {i : Nat} {oi : Oper} {v : Value} {fuel : Nat} {listed : Array Bool} {a : Act} {w : World} (hi : ops[i]? = some oi) (hwt : waitsFor md ops last i = true)
    (hs : Region.noSelect ops = true) (hf : Region.free md ops listed i = true) (hr : (Region.ready md ops listed).contains i = true)
    (hQ : ∀ c a w, Q (.panic c) (a.put oi.dst v) w → Q (.panic c) a w) (hy : YieldsIf P ops S oi v a) (hS : S w)
    (h : anyHL P md ops Q S last fuel (listed.setIfInBounds i true) (a.put oi.dst v) w) : anyHL P md ops Q S last (fuel + 1) listed a w :=
  anyHL_first hi (waits_spec hwt).1 (waits_spec hwt).2 (Region.noSelect_spec hs) hQ fuel listed a w (Region.free_spec hi hf) (by simpa using hr) hy hS h
/-- The one that alone may come up. -/
theorem anyHL_one {i : Nat} {o : Oper} {fuel : Nat} {listed : Array Bool} {a : Act} {w : World} (hr : Region.ready md ops listed = [i]) (ho : ops[i]? = some o) (hil : (i != last) = true)
    (h : ∀ K' : Act → World → Prop, Shut (∀ a w, S w → (S w → anyHL P md ops Q S last fuel (listed.setIfInBounds i true) a w) → K' a w) → if Region.wanted o (yielded ops a.tmps) = true then Oper.wp P o a w K' Q else K' (a.put o.dst undef) w) :
    anyHL P md ops Q S last (fuel + 1) listed a w :=
  ⟨fun h0 => absurd (hr.symm.trans h0) (by simp), fun j hj => by
    rw [hr] at hj
    obtain rfl : j = i := by simpa using hj
    exact wpOp_step ho (fun K' hK => h K' (fun a w hS hW => hK a w ⟨fun _ => hS, hW hS⟩))⟩
theorem anyHL_done {listed : Array Bool} {a : Act} {w : World} (hr : Region.ready md ops listed = []) (h : Q .normal a w) : ∀ fuel, anyHL P md ops Q S last fuel listed a w
  | 0 => ⟨hr, h⟩
  | _ + 1 => ⟨fun _ => h, by rw [hr]; simp⟩
/-- The last one. -/
theorem anyHL_last {o : Oper} {fuel : Nat} {listed : Array Bool} {a : Act} {w : World} (hr : Region.ready md ops listed = [last]) (ho : ops[last]? = some o) (hd : Region.ready md ops (listed.setIfInBounds last true) = [])
    (h : ∀ K' : Act → World → Prop, Shut (∀ a w, Q .normal a w → K' a w) → if Region.wanted o (yielded ops a.tmps) = true then Oper.wp P o a w K' Q else K' (a.put o.dst undef) w) :
    anyHL P md ops Q S last (fuel + 1) listed a w :=
  ⟨fun h0 => absurd (hr.symm.trans h0) (by simp), fun j hj => by
    rw [hr] at hj
    obtain rfl : j = last := by simpa using hj
    exact wpOp_step ho (fun K' hK => h K' (fun a w hq => hK a w ⟨fun e => absurd rfl e, anyHL_done hd hq _⟩))⟩
theorem wp_region_heldL {id : Nat} {a : Act} {w : World} (last : Nat) (hm : P.follows .mixedOrders = true) (hS : S w.drew)
    (h : S w.drew → anyHL P .any ops Q S last ops.size (Array.replicate ops.size false) a w.drew) : (Code.region id ops true).wp P Q a w :=
  wp_region_any hm (wpAny_of_HL _ _ _ _ (h hS))
end
end Go.Proofs.YtoegfgbalcholaaGreat

/-
  The contract of culvertref06's Parse.
-/
namespace Go.Proofs.YtoegfgbalcholaaGreat
set_option maxRecDepth 10000
open Go.RowKit

/-- The rest of a row of bytes, s[lo:], as one run equation. -/
theorem Rd.rest {w : World} {A : Option Addr} {n c : Nat} {l : List Int} (h : Rd w A n l) (lo : Nat) (loi : Int) (h0 : 0 < n) (hlo : lo ≤ n) (hc : n ≤ c) (hcm : c ≤ maxLen) (el : loi = (lo : Int)) :
    ∃ A', (∀ W : World, (Instr.sliceAt 24 (.slice A n c) (some (.int .i64 loi)) none none).run Tryz.prog W = .ok (.slice A' (n - lo) (c - lo)) W) ∧ Rd w A' (n - lo) (l.drop lo) := by
  subst el
  obtain ⟨b, o, rfl, _, _⟩ := h.at_ h0
  unfold maxLen at hcm
  have i0 : (0 : Int) ≤ (lo : Int) := by omega
  have i1 : (lo : Int) ≤ (n : Int) := by omega
  have i2 : (n : Int) ≤ (c : Int) := by omega
  have i3 : lo ≤ c := by omega
  by_cases hl : lo = c
  · subst hl
    obtain rfl : n = lo := by omega
    refine ⟨some ⟨b, o, none⟩, fun W => by go_simp, ?_⟩
    rw [Nat.sub_self, List.drop_eq_nil_of_le (by rw [h.len]; omega)]
    exact Rd.nil _ _
  · have i4 : ¬ c = lo := fun e => hl e.symm
    refine ⟨some ⟨b, o + lo, none⟩, fun W => by go_simp, ?_⟩
    exact h.drop_ rfl (by omega)

def zeroSeg : Seg := ⟨0, 0, 0, 0, 0, 0, 0, [], []⟩
def segOf (b : List Int) (n : Nat) : Seg :=
  ⟨numL ((b.drop 0).take 2), numL ((b.drop 2).take 2), numL ((b.drop 4).take 4), numL ((b.drop 8).take 4), b.getD 13 0, numL ((b.drop 14).take 2), numL ((b.drop 18).take 2), (parseO ((b.take n).drop 20)).1, b.drop n⟩
/-- How many bytes it says stand ahead of the Data. -/
def offB (b : List Int) : Nat := (b.getD 12 0 / 16 * 4).toNat
/-- What is wrong with a segment's bytes. -/
def errSeg (src dst : Int) (b : List Int) : Int :=
  if 1480 < b.length then 3 else if b.length < 20 then 4 else if offB b < 20 then 5 else if b.length < offB b then 4
  else if sumL (pseudoL src dst 6 b.length ++ b) ≠ 65535 then 20 else if (parseO ((b.take (offB b)).drop 20)).2 ≠ 0 then 5 else 0
theorem cell_set {w : World} {g : Nat} {C : Array Value} {t : TypeId} (h : w.heap[g]? = some (.cells C t (0, 0))) (i : Nat) (hi : i < C.size) (u : Value) : (w.setCell ⟨g, i, none⟩ u).cell? ⟨g, i, none⟩ = some u := by
  have h1 : (w.setCell ⟨g, i, none⟩ u).heap[g]? = some (.cells (C.setIfInBounds i u) t (0, 0)) := by simp [World.setCell, Array.getElem?_modify, h]
  rw [blk_cell h1]
  simp [hi]

theorem blk_set_ {w : World} {g : Nat} {C : Array Value} {t : TypeId} (h : w.heap[g]? = some (.cells C t (0, 0))) (i : Nat) (u : Value) : (w.setCell ⟨g, i, none⟩ u).heap[g]? = some (.cells (C.setIfInBounds i u) t (0, 0)) := by simp [World.setCell, Array.getElem?_modify, h]
theorem set9_cells {w : World} {g : Nat} {u0 u1 u2 u3 u4 u5 u6 u7 u8 : Value} {t : TypeId} (h : w.heap[g]? = some (.cells #[u0, u1, u2, u3, u4, u5, u6, u7, u8] t (0, 0))) (v0 v1 v2 v3 v4 v5 v6 v7 v8 : Value) :
    (w.setCell ⟨g, 0, none⟩ v0).cell? ⟨g, 0, none⟩ = some v0 ∧
    (((w.setCell ⟨g, 0, none⟩ v0)).setCell ⟨g, 1, none⟩ v1).cell? ⟨g, 1, none⟩ = some v1 ∧
    (((((w.setCell ⟨g, 0, none⟩ v0)).setCell ⟨g, 1, none⟩ v1)).setCell ⟨g, 2, none⟩ v2).cell? ⟨g, 2, none⟩ = some v2 ∧
    (((((((w.setCell ⟨g, 0, none⟩ v0)).setCell ⟨g, 1, none⟩ v1)).setCell ⟨g, 2, none⟩ v2)).setCell ⟨g, 3, none⟩ v3).cell? ⟨g, 3, none⟩ = some v3 ∧
    (((((((((w.setCell ⟨g, 0, none⟩ v0)).setCell ⟨g, 1, none⟩ v1)).setCell ⟨g, 2, none⟩ v2)).setCell ⟨g, 3, none⟩ v3)).setCell ⟨g, 4, none⟩ v4).cell? ⟨g, 4, none⟩ = some v4 ∧
    (((((((((((w.setCell ⟨g, 0, none⟩ v0)).setCell ⟨g, 1, none⟩ v1)).setCell ⟨g, 2, none⟩ v2)).setCell ⟨g, 3, none⟩ v3)).setCell ⟨g, 4, none⟩ v4)).setCell ⟨g, 5, none⟩ v5).cell? ⟨g, 5, none⟩ = some v5 ∧
    (((((((((((((w.setCell ⟨g, 0, none⟩ v0)).setCell ⟨g, 1, none⟩ v1)).setCell ⟨g, 2, none⟩ v2)).setCell ⟨g, 3, none⟩ v3)).setCell ⟨g, 4, none⟩ v4)).setCell ⟨g, 5, none⟩ v5)).setCell ⟨g, 6, none⟩ v6).cell? ⟨g, 6, none⟩ = some v6 ∧
    (((((((((((((((w.setCell ⟨g, 0, none⟩ v0)).setCell ⟨g, 1, none⟩ v1)).setCell ⟨g, 2, none⟩ v2)).setCell ⟨g, 3, none⟩ v3)).setCell ⟨g, 4, none⟩ v4)).setCell ⟨g, 5, none⟩ v5)).setCell ⟨g, 6, none⟩ v6)).setCell ⟨g, 7, none⟩ v7).cell? ⟨g, 7, none⟩ = some v7 ∧
    (((((((((((((((((w.setCell ⟨g, 0, none⟩ v0)).setCell ⟨g, 1, none⟩ v1)).setCell ⟨g, 2, none⟩ v2)).setCell ⟨g, 3, none⟩ v3)).setCell ⟨g, 4, none⟩ v4)).setCell ⟨g, 5, none⟩ v5)).setCell ⟨g, 6, none⟩ v6)).setCell ⟨g, 7, none⟩ v7)).setCell ⟨g, 8, none⟩ v8).cell? ⟨g, 8, none⟩ = some v8 := by
  have h1 := blk_set_ h 0 v0
  have h2 := blk_set_ h1 1 v1
  have h3 := blk_set_ h2 2 v2
  have h4 := blk_set_ h3 3 v3
  have h5 := blk_set_ h4 4 v4
  have h6 := blk_set_ h5 5 v5
  have h7 := blk_set_ h6 6 v6
  have h8 := blk_set_ h7 7 v7
  exact ⟨cell_set h 0 (by simp) v0, cell_set h1 1 (by simp) v1, cell_set h2 2 (by simp) v2, cell_set h3 3 (by simp) v3, cell_set h4 4 (by simp) v4, cell_set h5 5 (by simp) v5, cell_set h6 6 (by simp) v6, cell_set h7 7 (by simp) v7, cell_set h8 8 (by simp) v8⟩

end Go.Proofs.YtoegfgbalcholaaGreat

/-
  The contract of culvertref06's Parse where nothing is wrong.
-/
namespace Go.Proofs.YtoegfgbalcholaaGreat
set_option maxRecDepth 10000
open Go.RowKit

theorem set9_but (w : World) (q : Nat) (v0 v1 v2 v3 v4 v5 v6 v7 v8 : Value) : But (fun k => k = q) w (((((((((w.setCell ⟨q, 0, none⟩ v0).setCell ⟨q, 1, none⟩ v1).setCell ⟨q, 2, none⟩ v2).setCell ⟨q, 3, none⟩ v3).setCell ⟨q, 4, none⟩ v4).setCell ⟨q, 5, none⟩ v5).setCell ⟨q, 6, none⟩ v6).setCell ⟨q, 7, none⟩ v7).setCell ⟨q, 8, none⟩ v8) := ((((((((((But.refl (fun k => k = q) w).setCell (p := ⟨q, 0, none⟩) rfl v0).setCell (p := ⟨q, 1, none⟩) rfl v1).setCell (p := ⟨q, 2, none⟩) rfl v2).setCell (p := ⟨q, 3, none⟩) rfl v3).setCell (p := ⟨q, 4, none⟩) rfl v4).setCell (p := ⟨q, 5, none⟩) rfl v5).setCell (p := ⟨q, 6, none⟩) rfl v6).setCell (p := ⟨q, 7, none⟩) rfl v7).setCell (p := ⟨q, 8, none⟩) rfl v8)

end Go.Proofs.YtoegfgbalcholaaGreat

/-
  The contracts of package tcp's number, row and lay: function values that lay bytes behind a row of the caller's own, and a slice of them done one behind the other.
-/
namespace Go.Proofs.YtoegfgbalcholaaGreat
set_option maxRecDepth 10000
open Go.RowKit

/-- A row of the caller's own (from block B on), grown. -/
def GrownIs (B m : Nat) (l : List Int) (w : World) (e : Ending) (w' : World) : Prop := ∃ A c, e = .returned (.slice A m c) ∧ OwnB w' B A m c l ∧ Below B w w'
/-- A function value lays lk behind any row of its caller's own. -/
structure PartDo (F : FuncId) (caps : Array Value) (w : World) (lk : List Int) : Prop where
  ent : ∀ args W, (callFunc F args).run Tryz.prog W = .ok (.enter F args) W
  byte : Bytes lk
  run : ∀ (w1 : World) (B : Nat) (A : Option Addr) (n c m : Nat) (l : List Int), Below w.heap.size w w1 → w.heap.size ≤ B → B ≤ w1.heap.size → OwnB w1 B A n c l → Bytes l → n ≤ 100000 → lk.length ≤ 100000 → m = n + lk.length →
    Calls Tryz.prog F (#[.slice A n c] ++ caps) w1 (GrownIs B m (l ++ lk) w1)
theorem PartDo.on {F : FuncId} {caps : Array Value} {w w' : World} {lk : List Int} (h : PartDo F caps w lk) (hb : Below w.heap.size w w') : PartDo F caps w' lk :=
  ⟨h.ent, h.byte, fun w1 B A n c m l h1 h2 => h.run w1 B A n c m l (below_trans hb h1) (Nat.le_trans hb.size h2)⟩
/-- A function value is told that lays lk. -/
def MakesPart (lk : List Int) (w : World) (e : Ending) (w' : World) : Prop := ∃ F caps, e = .returned (.func (.func F) #[] caps) ∧ PartDo F caps w' lk ∧ Below w.heap.size w w'

/-- Two boxes that a call lays. -/
theorem two_boxes (w : World) (z : Nat) (hz : w.heap.size = z) (v0 v1 : Value) (t0 t1 : TypeId) (w1 : World) (hb : Below ((w.alloc (.cells #[v0] t0)).alloc (.cells #[v1] t1)).heap.size ((w.alloc (.cells #[v0] t0)).alloc (.cells #[v1] t1)) w1) :
    w1.cell? ⟨z, 0, none⟩ = some v0 ∧ w1.cell? ⟨z + 1, 0, none⟩ = some v1 := by
  subst hz
  have h0 := blk_on (g := w.heap.size) (by rw [Below.heap_alloc _ _ _ (by simp)]; exact heap_alloc_new w _) hb
  have h1 := blk_on (g := w.heap.size + 1) (by simpa using heap_alloc_new (w.alloc (.cells #[v0] t0)) (.cells #[v1] t1)) hb
  exact ⟨blk_cell h0 0, blk_cell h1 0⟩

theorem u8_part (x : Int) (w : World) (hx : 0 ≤ x ∧ x < 256) :
    Calls Tryz.prog 101 #[.func (.func 102) #[] #[], .int .u8 x] w (MakesPart [x] w) := by
  have hmf : ∀ (fn : Fn) (first cap : Array Value) (w : World), (Instr.makeFunc fn first cap).run Tryz.prog w = .ok (.func fn first cap) w := fun _ _ _ _ => rfl
  obtain ⟨z, hz⟩ : ∃ z, w.heap.size = z := ⟨_, rfl⟩
  have hb : Below w.heap.size w ((w.alloc (.cells #[.func (.func 102) #[] #[]] 164)).alloc (.cells #[.int .u8 x] 5)) := ((Below.refl _ _).alloc (Nat.le_refl _) _).alloc (by simp) _
  have hp : PartDo 120 #[.pointer (some ⟨z, 0, none⟩), .pointer (some ⟨z + 1, 0, none⟩)] ((w.alloc (.cells #[.func (.func 102) #[] #[]] 164)).alloc (.cells #[.int .u8 x] 5)) [x] := by
    refine ⟨enter_of Tryz.func120 (by kernel_rfl) rfl, by intro y hy; simp at hy; omega, fun w1 B A n c m l h1 h2 h3 hown hbl hn _ hm => ?_⟩
    obtain ⟨q0, q1⟩ := two_boxes w z hz _ _ _ _ w1 h1
    have Hu := Lib.hid (u8_lays A n c l x w1 hx ⟨hown.cap, hown.capMax⟩ (by omega) (hown.rd hbl))
    have H3 := Lib.hid h3
    have Hm := Lib.hid hm
    clear h1 h2 h3 hown hm
    show Calls Tryz.prog _ #[.slice A n c, .pointer (some ⟨z, 0, none⟩), .pointer (some ⟨z + 1, 0, none⟩)] w1 _
    go_enter Tryz.func120, Tryz.ntmps120
    go_wp2_with fail
    refine Hu.out.mono ?_
    rintro e w2 ⟨A2, c2, rfl, k1, k2, hown2, hb2⟩
    have Ho := Lib.hid (hown2.mono H3.out)
    have Hb := Lib.hid (hb2.mono H3.out)
    clear hown2 hb2
    go_wp2_with fail
    go_ret
    rw [Hm.out]
    exact ⟨A2, c2, rfl, Ho.out, Hb.out⟩
  have Hp := Lib.hid hp
  have Hb := Lib.hid hb
  clear hp hb
  go_enter Tryz.func101, Tryz.ntmps101
  go_wp2_with fail
  go_ret
  exact ⟨_, _, rfl, Hp.out, Hb.out⟩
theorem u16_part (x : Int) (w : World) (hx : 0 ≤ x ∧ x < 65536) :
    Calls Tryz.prog 99 #[.func (.func 44) #[] #[], .int .u16 x] w (MakesPart (be16 x) w) := by
  have hmf : ∀ (fn : Fn) (first cap : Array Value) (w : World), (Instr.makeFunc fn first cap).run Tryz.prog w = .ok (.func fn first cap) w := fun _ _ _ _ => rfl
  obtain ⟨z, hz⟩ : ∃ z, w.heap.size = z := ⟨_, rfl⟩
  have hb : Below w.heap.size w ((w.alloc (.cells #[.func (.func 44) #[] #[]] 104)).alloc (.cells #[.int .u16 x] 22)) := ((Below.refl _ _).alloc (Nat.le_refl _) _).alloc (by simp) _
  have hp : PartDo 118 #[.pointer (some ⟨z, 0, none⟩), .pointer (some ⟨z + 1, 0, none⟩)] ((w.alloc (.cells #[.func (.func 44) #[] #[]] 104)).alloc (.cells #[.int .u16 x] 22)) (be16 x) := by
    refine ⟨enter_of Tryz.func118 (by kernel_rfl) rfl, by intro y hy; simp [be16] at hy; omega, fun w1 B A n c m l h1 h2 h3 hown hbl hn _ hm => ?_⟩
    obtain ⟨q0, q1⟩ := two_boxes w z hz _ _ _ _ w1 h1
    have Hu := Lib.hid (u16_lays A n c l x w1 hx ⟨hown.cap, hown.capMax⟩ (by omega) (hown.rd hbl))
    have H3 := Lib.hid h3
    have Hm := Lib.hid hm
    clear h1 h2 h3 hown hm
    show Calls Tryz.prog _ #[.slice A n c, .pointer (some ⟨z, 0, none⟩), .pointer (some ⟨z + 1, 0, none⟩)] w1 _
    go_enter Tryz.func118, Tryz.ntmps118
    go_wp2_with fail
    refine Hu.out.mono ?_
    rintro e w2 ⟨A2, c2, rfl, k1, k2, hown2, hb2⟩
    have Ho := Lib.hid (hown2.mono H3.out)
    have Hb := Lib.hid (hb2.mono H3.out)
    clear hown2 hb2
    go_wp2_with fail
    go_ret
    rw [Hm.out]
    exact ⟨A2, c2, rfl, Ho.out, Hb.out⟩
  have Hp := Lib.hid hp
  have Hb := Lib.hid hb
  clear hp hb
  go_enter Tryz.func99, Tryz.ntmps99
  go_wp2_with fail
  go_ret
  exact ⟨_, _, rfl, Hp.out, Hb.out⟩
theorem u32_part (x : Int) (w : World) (hx : 0 ≤ x ∧ x < 4294967296) :
    Calls Tryz.prog 100 #[.func (.func 41) #[] #[], .int .u32 x] w (MakesPart (be32 x) w) := by
  have hmf : ∀ (fn : Fn) (first cap : Array Value) (w : World), (Instr.makeFunc fn first cap).run Tryz.prog w = .ok (.func fn first cap) w := fun _ _ _ _ => rfl
  obtain ⟨z, hz⟩ : ∃ z, w.heap.size = z := ⟨_, rfl⟩
  have hb : Below w.heap.size w ((w.alloc (.cells #[.func (.func 41) #[] #[]] 102)).alloc (.cells #[.int .u32 x] 23)) := ((Below.refl _ _).alloc (Nat.le_refl _) _).alloc (by simp) _
  have hp : PartDo 119 #[.pointer (some ⟨z, 0, none⟩), .pointer (some ⟨z + 1, 0, none⟩)] ((w.alloc (.cells #[.func (.func 41) #[] #[]] 102)).alloc (.cells #[.int .u32 x] 23)) (be32 x) := by
    refine ⟨enter_of Tryz.func119 (by kernel_rfl) rfl, by intro y hy; simp [be32] at hy; omega, fun w1 B A n c m l h1 h2 h3 hown hbl hn _ hm => ?_⟩
    obtain ⟨q0, q1⟩ := two_boxes w z hz _ _ _ _ w1 h1
    have Hu := Lib.hid (u32_lays A n c l x w1 hx ⟨hown.cap, hown.capMax⟩ (by omega) (hown.rd hbl))
    have H3 := Lib.hid h3
    have Hm := Lib.hid hm
    clear h1 h2 h3 hown hm
    show Calls Tryz.prog _ #[.slice A n c, .pointer (some ⟨z, 0, none⟩), .pointer (some ⟨z + 1, 0, none⟩)] w1 _
    go_enter Tryz.func119, Tryz.ntmps119
    go_wp2_with fail
    refine Hu.out.mono ?_
    rintro e w2 ⟨A2, c2, rfl, k1, k2, hown2, hb2⟩
    have Ho := Lib.hid (hown2.mono H3.out)
    have Hb := Lib.hid (hb2.mono H3.out)
    clear hown2 hb2
    go_wp2_with fail
    go_ret
    rw [Hm.out]
    exact ⟨A2, c2, rfl, Ho.out, Hb.out⟩
  have Hp := Lib.hid hp
  have Hb := Lib.hid hb
  clear hp hb
  go_enter Tryz.func100, Tryz.ntmps100
  go_wp2_with fail
  go_ret
  exact ⟨_, _, rfl, Hp.out, Hb.out⟩

theorem row_part (A' : Option Addr) (n' c' : Nat) (l' : List Int) (w : World) (hr : Rd w A' n' l') :
    Calls Tryz.prog 103 #[.slice A' n' c'] w (MakesPart l' w) := by
  have hmf : ∀ (fn : Fn) (first cap : Array Value) (w : World), (Instr.makeFunc fn first cap).run Tryz.prog w = .ok (.func fn first cap) w := fun _ _ _ _ => rfl
  obtain ⟨z, hz⟩ : ∃ z, w.heap.size = z := ⟨_, rfl⟩
  have hb : Below w.heap.size w (w.alloc (.cells #[.slice A' n' c'] 24)) := (Below.refl _ _).alloc (Nat.le_refl _) _
  have hp : PartDo 121 #[.pointer (some ⟨z, 0, none⟩)] (w.alloc (.cells #[.slice A' n' c'] 24)) l' := by
    refine ⟨enter_of Tryz.func121 (by kernel_rfl) rfl, hr.byte, fun w1 B A n c m l h1 h2 h3 hown hbl hn hk hm => ?_⟩
    have q0 := blk_cell (blk_on (heap_alloc_new w (.cells #[.slice A' n' c'] 24)) h1) 0
    rw [hz] at q0
    have Hr := Lib.hid (hr.below (below_trans hb h1))
    have Ho := Lib.hid hown
    have H3 := Lib.hid h3
    have hk' : n' ≤ 100000 := by rw [← hr.len]; exact hk
    have Hm := Lib.hid (show m = n + n' by rw [hm, hr.len])
    clear h1 h2 h3 hown hm hr
    show Calls Tryz.prog _ #[.slice A n c, .pointer (some ⟨z, 0, none⟩)] w1 _
    go_enter Tryz.func121, Tryz.ntmps121
    go_wp2_with (refine wpList_app rfl (.tmp 4) (.tmp 5) rfl B A A' n c n' c' _ l' rfl rfl Ho.out Hr.out (by omega) H3.out ?_; intro A2 c2 w2 hown2 _ hb2 _)
    go_ret
    rw [Hm.out]
    exact ⟨A2, c2, rfl, hown2, hb2⟩
  have Hp := Lib.hid hp
  have Hb := Lib.hid hb
  clear hp hb
  go_enter Tryz.func103, Tryz.ntmps103
  go_wp2_with fail
  go_ret
  exact ⟨_, _, rfl, Hp.out, Hb.out⟩

/-- A slice of function values that lay the lists ls. -/
structure RdP (w : World) (A : Option Addr) (n : Nat) (ls : List (List Int)) : Prop where
  len : ls.length = n
  at_ : 0 < n → ∃ b o, A = some ⟨b, o, none⟩ ∧ b < w.heap.size ∧ ∀ i, i < n → ∃ F caps, w.cell? ⟨b, o + i, none⟩ = some (.func (.func F) #[] caps) ∧ PartDo F caps w (ls.getD i [])
theorem RdP.index {w : World} {A : Option Addr} {n c : Nat} {ls : List (List Int)} (h : RdP w A n ls) {j : Nat} (hj : j < n) :
    ∃ p F caps, (∀ W : World, (Instr.indexAt 179 (.slice A n c) (.int .i64 (j : Int))).run Tryz.prog W = .ok (.pointer (some p)) W) ∧ p.block < w.heap.size ∧ w.cell? p = some (.func (.func F) #[] caps) ∧ PartDo F caps w (ls.getD j []) := by
  obtain ⟨b, o, rfl, hb, hc⟩ := h.at_ (by omega)
  have h0 : (0 : Int) ≤ (j : Int) := by omega
  have h1 : (j : Int) < (n : Int) := by omega
  obtain ⟨F, caps, e1, e2⟩ := hc j hj
  exact ⟨⟨b, o + j, none⟩, F, caps, fun W => by go_simp, hb, e1, e2⟩
theorem RdP.below {w w' : World} {A : Option Addr} {n : Nat} {ls : List (List Int)} (h : RdP w A n ls) (hb : Below w.heap.size w w') : RdP w' A n ls :=
  ⟨h.len, fun hn => by
    obtain ⟨b, o, e, hlt, hc⟩ := h.at_ hn
    refine ⟨b, o, e, Nat.lt_of_lt_of_le hlt hb.size, fun i hi => ?_⟩
    obtain ⟨F, caps, h1, h2⟩ := hc i hi
    exact ⟨F, caps, by rw [hb.cell (p := ⟨b, o + i, none⟩) hlt]; exact h1, h2.on hb⟩⟩
/-- A row of function values that the walk has just laid. -/
theorem RdP.row (w : World) (g : Nat) (hg : w.heap.size = g) (t : TypeId) (fr : Nat × Nat) (vs : List Value) (ls : List (List Int)) (n : Nat) (hn : ls.length = n)
    (h : ∀ i, i < ls.length → ∃ F caps, vs[i]? = some (.func (.func F) #[] caps) ∧ PartDo F caps w (ls.getD i [])) :
    RdP (w.alloc (.cells vs.toArray t fr)) (some ⟨g, 0, none⟩) n ls := by
  subst hg; subst hn
  refine ⟨rfl, fun _ => ⟨w.heap.size, 0, rfl, by simp, fun i hi => ?_⟩⟩
  obtain ⟨F, caps, h1, h2⟩ := h i hi
  refine ⟨F, caps, ?_, h2.on ((Below.refl _ _).alloc (Nat.le_refl _) _)⟩
  rw [World.cell?_alloc_mark]
  simpa using h1

theorem parts_any (A : Option Addr) (n c T : Nat) (ls : List (List Int)) (w : World) (hn : n ≤ 1000) (h : RdP w A n ls) (hT : ls.flatten.length = T) (hm : T ≤ 100000) :
    Calls Tryz.prog 98 #[.slice A n c] w (RowIs T ls.flatten w) := by
  have Hlen := Lib.hid h.len
  have HT := Lib.hid hT
  have Hh := Lib.hid h
  clear h hT
  go_enter Tryz.func98, Tryz.ntmps98
  go_wp2_with fail
  go_loopg [3, 8] n (fun gk s i wr => ∃ (j m : Nat) (A2 : Option Addr) (c2 : Nat), Hid (gk + j = n) ∧ j ≤ n ∧ i = .int .i64 (j : Int) ∧ m ≤ 100000 ∧ s = .slice A2 m c2 ∧ Hid (OwnB wr w.heap.size A2 m c2 (ls.take j).flatten) ∧ Hid (Bytes (ls.take j).flatten) ∧ Below w.heap.size w wr)
  case atStart => exact ⟨0, 0, none, 0, rfl, Nat.zero_le _, rfl, by omega, rfl, Lib.hid (OwnB.nil _ _), Lib.hid (by intro x hx; simp at hx), Below.refl _ _⟩
  case round =>
    obtain ⟨j, m, A2, c2, hgk, hj, rfl, hmj, rfl, hown, hby, hb⟩ := hrel
    by_cases hlt : j < n
    · obtain ⟨q, F, caps, hrunq, hqb, hcq0, hpd⟩ := Hh.out.index (c := c) hlt
      have hcq : wr.cell? q = some (.func (.func F) #[] caps) := by rw [hb.cell hqb]; exact hcq0
      have hf := flat_take ls j (by rw [Hlen.out]; exact hlt)
      have hsum : m + (ls.getD j []).length ≤ 100000 := by
        have h1 := hown.out.len
        have h3 := flat_len_le ls (j + 1)
        rw [hf, List.length_append, h1] at h3
        have := HT.out
        omega
      have hF := hpd.ent
      have Hrun := Lib.hid (hpd.run wr w.heap.size A2 m c2 _ _ hb (Nat.le_refl _) hb.size hown.out hby.out hmj (by omega) rfl)
      have Hby := Lib.hid (show Bytes (ls.take (j + 1)).flatten by rw [hf]; exact hby.out.app hpd.byte)
      rw [← hf] at Hrun
      obtain ⟨k, ek⟩ : ∃ k, (ls.getD j []).length = k := ⟨_, rfl⟩
      rw [ek] at Hrun hsum
      clear hf hpd hcq0 ek hown hby
      go_wp2_with fail
      refine Hrun.out.mono ?_
      rintro e w2 ⟨A3, c3, rfl, hown3, hb3⟩
      have Hown3 := Lib.hid hown3
      have Hb3 := Lib.hid (hb.trans hb3)
      clear hown3 hb3
      go_wp2_with fail
      go_roundg (gk - 1)
      case measure => have := hgk.out; omega
      case rel => exact ⟨j + 1, m + k, A3, c3, by have := hgk.out; show gk - 1 + (j + 1) = _; omega, by omega, by go_num, hsum, rfl, Hown3, Hby, Hb3.out⟩
    · obtain rfl : j = n := by omega
      have ho := hown.out
      rw [List.take_of_length_le (by rw [Hlen.out]; exact Nat.le_refl _)] at ho
      have hmT : m = T := by rw [← ho.len, HT.out]
      subst hmT
      have Ho := Lib.hid ho
      clear ho
      go_wp2_with fail
      go_ret
      exact ⟨A2, c2, rfl, Ho.out.cap, Ho.out.capMax, Ho.out, hb⟩
end Go.Proofs.YtoegfgbalcholaaGreat
