/-
  Texts laid together: HeldLast, SegParse, SegGood, Wire.
-/
import Derived.Test.YtheknmihnkennaaGreatRows
import Derived.OrdersHeld
import Derived.Deep.RegionHeld
import Derived.Test.YtheknmihnkennaaGreatZA09
import Derived.Test.YtheknmihnkennaaGreatZA07
import Derived.Test.YtheknmihnkennaaGreatZA05
import Derived.Test.YtheknmihnkennaaGreatZA02
import Derived.WalkSmall
import Derived.Deep.LoopGhost
import Derived.LoopTactic
import Derived.Outline
import Derived.Lib.Hide
import Derived.Deep.QuietTactic
import Derived.BigQuiet
import Derived.Lib.Builder
import Derived.Lib.SliceRun
import Derived.Laws.StructEq

/-
  A drawn region whose LAST operation turns what the region read (a store to a cell that it loads, an append onto a row that it reads): the condition S is asked behind every operation but that one. No function of the program.
-/
namespace Go.Proofs.YtheknmihnkennaaGreat
set_option maxRecDepth 10000
section
variable {P : Program} {ops : Array Oper} {Q : Exit → Act → World → Prop} {md : Region.Mode} {S : World → Prop} {last : Nat}

/-- Whatever order is picked from here on, and S holds behind every operation that is carried out, but the last one. -/
def anyHL (P : Program) (md : Region.Mode) (ops : Array Oper) (Q : Exit → Act → World → Prop) (S : World → Prop) (last : Nat) : Nat → Array Bool → Act → World → Prop
  | 0, listed, a, w => Region.ready md ops listed = [] ∧ Q .normal a w
  | fuel + 1, listed, a, w =>
    (Region.ready md ops listed = [] → Q .normal a w) ∧
    ∀ i ∈ Region.ready md ops listed, wpOp P ops Q i (fun a' w' => (i ≠ last → S w') ∧ anyHL P md ops Q S last fuel (listed.setIfInBounds i true) a' w') a w
theorem wpAny_of_HL : ∀ (fuel : Nat) (listed : Array Bool) (a : Act) (w : World), anyHL P md ops Q S last fuel listed a w → wpAny P md ops Q fuel listed a w
  | 0, _, _, _, h => h
  | fuel + 1, _, _, _, h => ⟨h.1, fun i hi => wpOp_mono (fun a' w' h' => wpAny_of_HL fuel _ a' w' h'.2) (h.2 i hi)⟩

theorem anyHL_first {i : Nat} {oi : Oper} {v : Value} (hi : ops[i]? = some oi) (hil : i ≠ last) (hdep : ∃ ol, ops[last]? = some ol ∧ ∃ e ∈ ol.after, Region.binds md e = true ∧ e.on = i)
    (hsel : ∀ (j : Nat) (o : Oper) cs b, ops[j]? = some o → o.op ≠ .select cs b) (hQ : ∀ c a w, Q (.panic c) (a.put oi.dst v) w → Q (.panic c) a w) :
    ∀ (fuel : Nat) (listed : Array Bool) (a : Act) (w : World),
      (∀ j oj, ops[j]? = some oj → j ≠ i → listed.getD j true = false → (∀ e ∈ oj.after, Region.binds md e = true → e.on ≠ i) → oi.apart ops oj = true) →
      i ∈ Region.ready md ops listed → YieldsIf P ops S oi v a → S w →
      anyHL P md ops Q S last fuel (listed.setIfInBounds i true) (a.put oi.dst v) w → anyHL P md ops Q S last (fuel + 1) listed a w := by
  intro fuel
  induction fuel with
  | zero =>
    intro listed a w _ hr hy hS H
    refine ⟨fun h => (by rw [h] at hr; cases hr), fun j hj => ?_⟩
    by_cases hji : j = i
    · subst hji; exact hy.wpOp hi hS ⟨fun _ => hS, H⟩
    · have := ready_mono hj hji
      rw [H.1] at this
      cases this
  | succ fuel ih =>
    intro listed a w hfree hr hy hS H
    refine ⟨fun h => (by rw [h] at hr; cases hr), fun j hj => ?_⟩
    by_cases hji : j = i
    · subst hji; exact hy.wpOp hi hS ⟨fun _ => hS, H⟩
    · have h1 := H.2 j (ready_mono hj hji)
      obtain ⟨hjun, oj, hoj, hall⟩ := mem_ready.1 hj
      have hnot : ∀ e ∈ oj.after, Region.binds md e = true → e.on ≠ i := fun e he hb heq => by
        have h1 := hall e he hb
        have h0 := (mem_ready.1 hr).1
        rw [heq] at h1
        rcases Nat.lt_or_ge i listed.size with h' | h'
        · simp [h'] at h0 h1; rw [h0] at h1; cases h1
        · simp [Array.getElem?_eq_none h'] at h1
      have hjl : j ≠ last := by
        intro e
        subst e
        obtain ⟨ol, hol, e, he, hb, heq⟩ := hdep
        rw [hoj] at hol
        injection hol with hol
        subst hol
        exact hnot e he hb heq
      have h2 := wpOp_putIf hoj (hfree j oj hoj hji hjun hnot) (fun cs b => hsel i oi cs b hi) (fun cs b => hsel j oj cs b hoj) hQ hy h1
      have hfree' : ∀ k ok, ops[k]? = some ok → k ≠ i → (listed.setIfInBounds j true).getD k true = false →
          (∀ e ∈ ok.after, Region.binds md e = true → e.on ≠ i) → oi.apart ops ok = true := fun k ok hk hki hun hno => by
        refine hfree k ok hk hki ?_ hno
        by_cases hjk : j = k
        · subst hjk; exact hjun
        · rw [getD_set_ne true hjk] at hun; exact hun
      refine wpOp_mono (fun a' w' h3 => ⟨fun _ => h3.2.1 hjl, ih (listed.setIfInBounds j true) a' w' hfree' (ready_mono hr (Ne.symm hji)) h3.1 (h3.2.1 hjl) ?_⟩) h2
      rw [Array.setIfInBounds_comm _ _ hji]
      exact h3.2.2

/-- Whether the last operation waits for number i by an edge of its own. -/
def waitsFor (md : Region.Mode) (ops : Array Oper) (last i : Nat) : Bool := (i != last) && ((ops[last]?).map (fun o => o.after.any fun e => Region.binds md e && (e.on == i))).getD false
theorem waits_spec {i : Nat} (h : waitsFor md ops last i = true) : i ≠ last ∧ ∃ ol, ops[last]? = some ol ∧ ∃ e ∈ ol.after, Region.binds md e = true ∧ e.on = i := by
  unfold waitsFor at h
  rw [Bool.and_eq_true] at h
  refine ⟨by simpa using h.1, ?_⟩
  cases ho : ops[last]? with
  | none => rw [ho] at h; simp at h
  | some ol =>
    rw [ho] at h
    simp only [Option.map_some, Option.getD_some] at h
    obtain ⟨k, hk, hp⟩ := Array.any_eq_true.1 h.2
    rw [Bool.and_eq_true] at hp
    exact ⟨ol, rfl, ol.after[k], Array.getElem_mem hk, hp.1, by simpa using hp.2⟩
theorem anyHL_take {i : Nat} {oi : Oper} {v : Value} {fuel : Nat} {listed : Array Bool} {a : Act} {w : World} (hi : ops[i]? = some oi) (hwt : waitsFor md ops last i = true)
    (hs : Region.noSelect ops = true) (hf : Region.free md ops listed i = true) (hr : (Region.ready md ops listed).contains i = true)
    (hQ : ∀ c a w, Q (.panic c) (a.put oi.dst v) w → Q (.panic c) a w) (hy : YieldsIf P ops S oi v a) (hS : S w)
    (h : anyHL P md ops Q S last fuel (listed.setIfInBounds i true) (a.put oi.dst v) w) : anyHL P md ops Q S last (fuel + 1) listed a w :=
  anyHL_first hi (waits_spec hwt).1 (waits_spec hwt).2 (Region.noSelect_spec hs) hQ fuel listed a w (Region.free_spec hi hf) (by simpa using hr) hy hS h
/-- The one that alone may come up. -/
theorem anyHL_one {i : Nat} {o : Oper} {fuel : Nat} {listed : Array Bool} {a : Act} {w : World} (hr : Region.ready md ops listed = [i]) (ho : ops[i]? = some o) (hil : (i != last) = true)
    (h : ∀ K' : Act → World → Prop, Shut (∀ a w, S w → (S w → anyHL P md ops Q S last fuel (listed.setIfInBounds i true) a w) → K' a w) → if Region.wanted o (yielded ops a.tmps) = true then Oper.wp P o a w K' Q else K' (a.put o.dst undef) w) :
    anyHL P md ops Q S last (fuel + 1) listed a w :=
  ⟨fun h0 => absurd (hr.symm.trans h0) (by simp), fun j hj => by
    rw [hr] at hj
    obtain rfl : j = i := by simpa using hj
    exact wpOp_step ho (fun K' hK => h K' (fun a w hS hW => hK a w ⟨fun _ => hS, hW hS⟩))⟩
theorem anyHL_done {listed : Array Bool} {a : Act} {w : World} (hr : Region.ready md ops listed = []) (h : Q .normal a w) : ∀ fuel, anyHL P md ops Q S last fuel listed a w
  | 0 => ⟨hr, h⟩
  | _ + 1 => ⟨fun _ => h, by rw [hr]; simp⟩
/-- The last one. -/
theorem anyHL_last {o : Oper} {fuel : Nat} {listed : Array Bool} {a : Act} {w : World} (hr : Region.ready md ops listed = [last]) (ho : ops[last]? = some o) (hd : Region.ready md ops (listed.setIfInBounds last true) = [])
    (h : ∀ K' : Act → World → Prop, Shut (∀ a w, Q .normal a w → K' a w) → if Region.wanted o (yielded ops a.tmps) = true then Oper.wp P o a w K' Q else K' (a.put o.dst undef) w) :
    anyHL P md ops Q S last (fuel + 1) listed a w :=
  ⟨fun h0 => absurd (hr.symm.trans h0) (by simp), fun j hj => by
    rw [hr] at hj
    obtain rfl : j = last := by simpa using hj
    exact wpOp_step ho (fun K' hK => h K' (fun a w hq => hK a w ⟨fun e => absurd rfl e, anyHL_done hd hq _⟩))⟩
theorem wp_region_heldL {id : Nat} {a : Act} {w : World} (last : Nat) (hm : P.follows .mixedOrders = true) (hS : S w.drew)
    (h : S w.drew → anyHL P .any ops Q S last ops.size (Array.replicate ops.size false) a w.drew) : (Code.region id ops true).wp P Q a w :=
  wp_region_any hm (wpAny_of_HL _ _ _ _ (h hS))
end
end Go.Proofs.YtheknmihnkennaaGreat

/-
  The contract of culvertref06's Parse.
-/
namespace Go.Proofs.YtheknmihnkennaaGreat
set_option maxRecDepth 10000
open Go.RowKit

/-- The rest of a row of bytes, s[lo:], as one run equation. -/
theorem Rd.rest {w : World} {A : Option Addr} {n c : Nat} {l : List Int} (h : Rd w A n l) (lo : Nat) (loi : Int) (h0 : 0 < n) (hlo : lo ≤ n) (hc : n ≤ c) (hcm : c ≤ maxLen) (el : loi = (lo : Int)) :
    ∃ A', (∀ W : World, (Instr.sliceAt 22 (.slice A n c) (some (.int .i64 loi)) none none).run Tryz.prog W = .ok (.slice A' (n - lo) (c - lo)) W) ∧ Rd w A' (n - lo) (l.drop lo) := by
  subst el
  obtain ⟨b, o, rfl, _, _⟩ := h.at_ h0
  unfold maxLen at hcm
  have i0 : (0 : Int) ≤ (lo : Int) := by omega
  have i1 : (lo : Int) ≤ (n : Int) := by omega
  have i2 : (n : Int) ≤ (c : Int) := by omega
  have i3 : lo ≤ c := by omega
  by_cases hl : lo = c
  · subst hl
    obtain rfl : n = lo := by omega
    refine ⟨some ⟨b, o, none⟩, fun W => by go_simp, ?_⟩
    rw [Nat.sub_self, List.drop_eq_nil_of_le (by rw [h.len]; omega)]
    exact Rd.nil _ _
  · have i4 : ¬ c = lo := fun e => hl e.symm
    refine ⟨some ⟨b, o + lo, none⟩, fun W => by go_simp, ?_⟩
    exact h.drop_ rfl (by omega)

def zeroSeg : Seg := ⟨0, 0, 0, 0, 0, 0, 0, [], []⟩
def segOf (b : List Int) (n : Nat) : Seg :=
  ⟨numL ((b.drop 0).take 2), numL ((b.drop 2).take 2), numL ((b.drop 4).take 4), numL ((b.drop 8).take 4), b.getD 13 0, numL ((b.drop 14).take 2), numL ((b.drop 18).take 2), (parseO ((b.take n).drop 20)).1, b.drop n⟩
/-- How many bytes it says stand ahead of the Data. -/
def offB (b : List Int) : Nat := (b.getD 12 0 / 16 * 4).toNat
/-- What is wrong with a segment's bytes. -/
def errSeg (src dst : Int) (b : List Int) : Int :=
  if 1480 < b.length then 3 else if b.length < 20 then 4 else if offB b < 20 then 5 else if b.length < offB b then 4
  else if sumL (pseudoL src dst 6 b.length ++ b) ≠ 65535 then 20 else if (parseO ((b.take (offB b)).drop 20)).2 ≠ 0 then 5 else 0
/-- What Parse tells of bytes that are no segment. -/
def SegBad (x : Int) (w : World) (e : Ending) (w' : World) : Prop := e = .returned (.tuple #[.agg #[.int .u16 0, .int .u16 0, .int .u32 0, .int .u32 0, .int .u8 0, .int .u16 0, .int .u16 0, .slice none 0 0, .slice none 0 0], .int .i64 x]) ∧ Below w.heap.size w w'

theorem cell_set {w : World} {g : Nat} {C : Array Value} {t : TypeId} (h : w.heap[g]? = some (.cells C t (0, 0))) (i : Nat) (hi : i < C.size) (u : Value) : (w.setCell ⟨g, i, none⟩ u).cell? ⟨g, i, none⟩ = some u := by
  have h1 : (w.setCell ⟨g, i, none⟩ u).heap[g]? = some (.cells (C.setIfInBounds i u) t (0, 0)) := by simp [World.setCell, Array.getElem?_modify, h]
  rw [blk_cell h1]
  simp [hi]

theorem blk_set_ {w : World} {g : Nat} {C : Array Value} {t : TypeId} (h : w.heap[g]? = some (.cells C t (0, 0))) (i : Nat) (u : Value) : (w.setCell ⟨g, i, none⟩ u).heap[g]? = some (.cells (C.setIfInBounds i u) t (0, 0)) := by simp [World.setCell, Array.getElem?_modify, h]
theorem set9_cells {w : World} {g : Nat} {u0 u1 u2 u3 u4 u5 u6 u7 u8 : Value} {t : TypeId} (h : w.heap[g]? = some (.cells #[u0, u1, u2, u3, u4, u5, u6, u7, u8] t (0, 0))) (v0 v1 v2 v3 v4 v5 v6 v7 v8 : Value) :
    (w.setCell ⟨g, 0, none⟩ v0).cell? ⟨g, 0, none⟩ = some v0 ∧
    (((w.setCell ⟨g, 0, none⟩ v0)).setCell ⟨g, 1, none⟩ v1).cell? ⟨g, 1, none⟩ = some v1 ∧
    (((((w.setCell ⟨g, 0, none⟩ v0)).setCell ⟨g, 1, none⟩ v1)).setCell ⟨g, 2, none⟩ v2).cell? ⟨g, 2, none⟩ = some v2 ∧
    (((((((w.setCell ⟨g, 0, none⟩ v0)).setCell ⟨g, 1, none⟩ v1)).setCell ⟨g, 2, none⟩ v2)).setCell ⟨g, 3, none⟩ v3).cell? ⟨g, 3, none⟩ = some v3 ∧
    (((((((((w.setCell ⟨g, 0, none⟩ v0)).setCell ⟨g, 1, none⟩ v1)).setCell ⟨g, 2, none⟩ v2)).setCell ⟨g, 3, none⟩ v3)).setCell ⟨g, 4, none⟩ v4).cell? ⟨g, 4, none⟩ = some v4 ∧
    (((((((((((w.setCell ⟨g, 0, none⟩ v0)).setCell ⟨g, 1, none⟩ v1)).setCell ⟨g, 2, none⟩ v2)).setCell ⟨g, 3, none⟩ v3)).setCell ⟨g, 4, none⟩ v4)).setCell ⟨g, 5, none⟩ v5).cell? ⟨g, 5, none⟩ = some v5 ∧
    (((((((((((((w.setCell ⟨g, 0, none⟩ v0)).setCell ⟨g, 1, none⟩ v1)).setCell ⟨g, 2, none⟩ v2)).setCell ⟨g, 3, none⟩ v3)).setCell ⟨g, 4, none⟩ v4)).setCell ⟨g, 5, none⟩ v5)).setCell ⟨g, 6, none⟩ v6).cell? ⟨g, 6, none⟩ = some v6 ∧
    (((((((((((((((w.setCell ⟨g, 0, none⟩ v0)).setCell ⟨g, 1, none⟩ v1)).setCell ⟨g, 2, none⟩ v2)).setCell ⟨g, 3, none⟩ v3)).setCell ⟨g, 4, none⟩ v4)).setCell ⟨g, 5, none⟩ v5)).setCell ⟨g, 6, none⟩ v6)).setCell ⟨g, 7, none⟩ v7).cell? ⟨g, 7, none⟩ = some v7 ∧
    (((((((((((((((((w.setCell ⟨g, 0, none⟩ v0)).setCell ⟨g, 1, none⟩ v1)).setCell ⟨g, 2, none⟩ v2)).setCell ⟨g, 3, none⟩ v3)).setCell ⟨g, 4, none⟩ v4)).setCell ⟨g, 5, none⟩ v5)).setCell ⟨g, 6, none⟩ v6)).setCell ⟨g, 7, none⟩ v7)).setCell ⟨g, 8, none⟩ v8).cell? ⟨g, 8, none⟩ = some v8 := by
  have h1 := blk_set_ h 0 v0
  have h2 := blk_set_ h1 1 v1
  have h3 := blk_set_ h2 2 v2
  have h4 := blk_set_ h3 3 v3
  have h5 := blk_set_ h4 4 v4
  have h6 := blk_set_ h5 5 v5
  have h7 := blk_set_ h6 6 v6
  have h8 := blk_set_ h7 7 v7
  exact ⟨cell_set h 0 (by simp) v0, cell_set h1 1 (by simp) v1, cell_set h2 2 (by simp) v2, cell_set h3 3 (by simp) v3, cell_set h4 4 (by simp) v4, cell_set h5 5 (by simp) v5, cell_set h6 6 (by simp) v6, cell_set h7 7 (by simp) v7, cell_set h8 8 (by simp) v8⟩

end Go.Proofs.YtheknmihnkennaaGreat

/-
  The contract of culvertref06's Parse where nothing is wrong.
-/
namespace Go.Proofs.YtheknmihnkennaaGreat
set_option maxRecDepth 10000
open Go.RowKit

theorem set9_but (w : World) (q : Nat) (v0 v1 v2 v3 v4 v5 v6 v7 v8 : Value) : But (fun k => k = q) w (((((((((w.setCell ⟨q, 0, none⟩ v0).setCell ⟨q, 1, none⟩ v1).setCell ⟨q, 2, none⟩ v2).setCell ⟨q, 3, none⟩ v3).setCell ⟨q, 4, none⟩ v4).setCell ⟨q, 5, none⟩ v5).setCell ⟨q, 6, none⟩ v6).setCell ⟨q, 7, none⟩ v7).setCell ⟨q, 8, none⟩ v8) := ((((((((((But.refl (fun k => k = q) w).setCell (p := ⟨q, 0, none⟩) rfl v0).setCell (p := ⟨q, 1, none⟩) rfl v1).setCell (p := ⟨q, 2, none⟩) rfl v2).setCell (p := ⟨q, 3, none⟩) rfl v3).setCell (p := ⟨q, 4, none⟩) rfl v4).setCell (p := ⟨q, 5, none⟩) rfl v5).setCell (p := ⟨q, 6, none⟩) rfl v6).setCell (p := ⟨q, 7, none⟩) rfl v7).setCell (p := ⟨q, 8, none⟩) rfl v8)

end Go.Proofs.YtheknmihnkennaaGreat

/-
  The contracts of package wire's readers: shut, Left, At, Fail, End, take, number, U8, U16, U32, Bytes, Rest, of a reader that is open.
-/
namespace Go.Proofs.YtheknmihnkennaaGreat
set_option maxRecDepth 10000
open Go.RowKit

/-- The reader's own block: the reader in block g has A n c left, 'at' were read, e is what it gave up with. -/
def rdrBlock (g : Nat) (A : Option Addr) (n c : Nat) (at_ e : Int) : Obj := .cells #[.pointer (some ⟨g, 0, none⟩), .slice A n c, .int .i64 at_, .int .i64 e] 128 (0, 0)
/-- Where a slice may begin: nowhere, or at a plain place. -/
def SlAt (A : Option Addr) (c : Nat) : Prop := (A = none ∧ c = 0) ∨ ∃ b o, A = some ⟨b, o, none⟩
/-- A reader that is open: in block g, l is left, 'at' bytes were read, and it has not given up; it and its bytes lie from block B on. -/
def Rdr (w : World) (B g : Nat) (l : List Int) (at_ : Int) : Prop := ∃ A n c, n ≤ c ∧ c ≤ maxLen ∧ SlAt A c ∧ (B ≤ g ∧ ∀ b o, A = some ⟨b, o, none⟩ → B ≤ b ∧ b < g) ∧ (0 ≤ at_ ∧ at_ + (l.length : Int) ≤ 9223372036854775807) ∧ w.heap[g]? = some (rdrBlock g A n c at_ 0) ∧ Rd w A n l
/-- One that gave up with e. -/
def Gave (w : World) (g : Nat) (e : Int) : Prop := ∃ A n c at_, w.heap[g]? = some (rdrBlock g A n c at_ e)

structure RdrC (w : World) (g : Nat) (A : Option Addr) (n c : Nat) (at_ e : Int) : Prop where
  c0 : w.cell? ⟨g, 0, none⟩ = some (.pointer (some ⟨g, 0, none⟩))
  c1 : w.cell? ⟨g, 1, none⟩ = some (.slice A n c)
  c2 : w.cell? ⟨g, 2, none⟩ = some (.int .i64 at_)
  c3 : w.cell? ⟨g, 3, none⟩ = some (.int .i64 e)
  f0 : w.frozen? ⟨g, 0, none⟩ = false
  f1 : w.frozen? ⟨g, 1, none⟩ = false
  f2 : w.frozen? ⟨g, 2, none⟩ = false
  f3 : w.frozen? ⟨g, 3, none⟩ = false
theorem rdrC {w : World} {g : Nat} {A : Option Addr} {n c : Nat} {at_ e : Int} (h : w.heap[g]? = some (rdrBlock g A n c at_ e)) : RdrC w g A n c at_ e := by
  unfold rdrBlock at h
  refine ⟨?_, ?_, ?_, ?_, ?_, ?_, ?_, ?_⟩ <;> simp [World.cell?, World.frozen?, h]

theorem info_rdr : (Tryz.prog.info? 128).isSome = true := by kernel_rfl
theorem ptr_same (g : Nat) (w : World) : (binOp .neq 87 (.pointer (some ⟨g, 0, none⟩)) (.pointer (some ⟨g, 0, none⟩))).run Tryz.prog w = .ok (.bool false) w := by
  obtain ⟨j, hj⟩ := Option.isSome_iff_exists.1 info_rdr
  exact Lib.run_neq_ptr_same w _ Tryz.underlying87 hj
theorem info_gave : (Tryz.prog.info? 161).map (·.comparable) = some true := by kernel_rfl
theorem gave_fields : Tryz.prog.underlying 161 = some (.struct (Tryz.prog.fieldsOf 161)) := by kernel_rfl
theorem gave_fieldList : (Tryz.prog.fieldsOf 161).toList.map (fun f => (f.name, f.type, f.offset)) = [("reader", 87, 0)] := by kernel_rfl
theorem gave_held : Tryz.prog.stoodInHeld 161 = false := by kernel_rfl
theorem gave_same (g : Nat) (w : World) : (binOp .neq 20 (.iface 161 (.agg #[.pointer (some ⟨g, 0, none⟩)])) (.iface 161 (.agg #[.pointer (some ⟨g, 0, none⟩)]))).run Tryz.prog w = .ok (.bool false) w := by
  obtain ⟨j, hj⟩ := Option.isSome_iff_exists.1 info_rdr
  obtain ⟨i, hi, hcc⟩ : ∃ i, Tryz.prog.info? 161 = some i ∧ i.comparable = true := by
    have := info_gave
    cases hi : Tryz.prog.info? 161 with
    | none => simp [hi] at this
    | some i => exact ⟨i, rfl, by simpa [hi] using this⟩
  have hp : ∀ d : Nat, (Op.equalIn (d + 1) 87 (.pointer (some ⟨g, 0, none⟩)) (.pointer (some ⟨g, 0, none⟩))).run Tryz.prog w = .ok true w := fun d => by
    simp [Op.equalIn, run_underlying Tryz.underlying87, sizeOf, typeInfo, hj, run_sameAddr_same]
  have hs : ∀ d : Nat, (Op.equalIn (d + 2) 161 (.agg #[.pointer (some ⟨g, 0, none⟩)]) (.agg #[.pointer (some ⟨g, 0, none⟩)])).run Tryz.prog w = .ok true w := fun d => by
    rw [run_equalIn_struct w (d + 1) _ _ _ gave_fields gave_held]
    have hl := gave_fieldList
    generalize (Tryz.prog.fieldsOf 161).toList = fs at hl
    obtain ⟨f, rfl⟩ : ∃ f, fs = [f] := List.length_eq_one_iff.1 (by have := congrArg List.length hl; simpa using this)
    simp at hl
    obtain ⟨h1, h2, h3⟩ := hl
    simp [Op.eqFields, h1, h2, h3, part, hp, sizeOf, typeInfo]
  have h : ∀ d : Nat, (Op.equalIn (d + 1) 20 (.iface 161 (.agg #[.pointer (some ⟨g, 0, none⟩)])) (.iface 161 (.agg #[.pointer (some ⟨g, 0, none⟩)]))).run Tryz.prog w = (Op.equalIn d 161 (.agg #[.pointer (some ⟨g, 0, none⟩)]) (.agg #[.pointer (some ⟨g, 0, none⟩)])).run Tryz.prog w := fun d => by
    simp [Op.equalIn, run_underlying Tryz.underlying20, typeInfo, hi, hcc]
  simp only [binOp]
  simp [Op.equal, Op.maxDepth, h 9999, hs 9997]

theorem shut_any (g : Nat) (w : World) (h : w.cell? ⟨g, 0, none⟩ = some (.pointer (some ⟨g, 0, none⟩))) :
    Calls Tryz.prog 103 #[.pointer (some ⟨g, 0, none⟩)] w fun e w' => e = .returned (.bool false) ∧ w = w' := by
  have hne := ptr_same g
  go_enter Tryz.func103, Tryz.ntmps103
  go_wp2
  go_ret
  exact ⟨rfl, rfl⟩

theorem left_any (g : Nat) (A : Option Addr) (n c : Nat) (at_ e : Int) (w : World) (h : w.heap[g]? = some (rdrBlock g A n c at_ e)) :
    Calls Tryz.prog 76 #[.pointer (some ⟨g, 0, none⟩)] w fun e w' => e = .returned (.int .i64 (n : Int)) ∧ w = w' := by
  obtain ⟨c0, c1, c2, c3, f0, f1, f2, f3⟩ := rdrC h
  clear h
  go_enter Tryz.func76, Tryz.ntmps76
  go_wp2_with (go_at_call 103; refine (shut_any g _ (by assumption)).mono ?_; rintro e w' ⟨rfl, rfl⟩)
  go_ret
  exact ⟨rfl, rfl⟩

/-- What a reader's panic looks like from outside. -/
def gaveUp (g : Nat) : List PanicEntry := [{ v := .iface 161 (.agg #[.pointer (some ⟨g, 0, none⟩)]), recovered := false }]

theorem setCell_block {w : World} {b i : Nat} {cells : Array Value} {ty : TypeId} {ro : Nat × Nat} (hb : w.heap[b]? = some (.cells cells ty ro)) (u : Value) :
    (w.setCell ⟨b, i, none⟩ u).heap[b]? = some (.cells (cells.set! i u) ty ro) := by
  rw [Joins.block_setCell hb u]; simp
theorem set_left {w : World} {g : Nat} {A : Option Addr} {n c : Nat} {at_ e : Int} (h : w.heap[g]? = some (rdrBlock g A n c at_ e)) (A' : Option Addr) (n' c' : Nat) : (w.setCell ⟨g, 1, none⟩ (.slice A' n' c')).heap[g]? = some (rdrBlock g A' n' c' at_ e) := by
  rw [rdrBlock, setCell_block h]; simp
theorem set_at {w : World} {g : Nat} {A : Option Addr} {n c : Nat} {at_ e : Int} (h : w.heap[g]? = some (rdrBlock g A n c at_ e)) (x : Int) : (w.setCell ⟨g, 2, none⟩ (.int .i64 x)).heap[g]? = some (rdrBlock g A n c x e) := by
  rw [rdrBlock, setCell_block h]; simp
theorem set_err {w : World} {g : Nat} {A : Option Addr} {n c : Nat} {at_ e : Int} (h : w.heap[g]? = some (rdrBlock g A n c at_ e)) (x : Int) : (w.setCell ⟨g, 3, none⟩ (.int .i64 x)).heap[g]? = some (rdrBlock g A n c at_ x) := by
  rw [rdrBlock, setCell_block h]; simp

theorem fail_ok (g : Nat) (w : World) : 
    Calls Tryz.prog 72 #[.pointer (some ⟨g, 0, none⟩), .int .i64 0] w fun e w' => e = .returned (.tuple #[]) ∧ w = w' := by
  go_enter Tryz.func72, Tryz.ntmps72
  go_wp2
  refine bodyPost_ret (results_none rfl _ _ _) rfl ?_
  exact ⟨rfl, rfl⟩

/-- The reader gives up with x. -/
def GivesUp (g : Nat) (x : Int) (w : World) (e : Ending) (w' : World) : Prop := e = .panicked (gaveUp g) ∧ Gave w' g x ∧ But (fun k => k = g) w w'

theorem fail_err (g : Nat) (A : Option Addr) (n c : Nat) (at_ x : Int) (w : World) (h : w.heap[g]? = some (rdrBlock g A n c at_ 0)) (hx : x ≠ 0) : 
    Calls Tryz.prog 72 #[.pointer (some ⟨g, 0, none⟩), .int .i64 x] w (GivesUp g x w) := by
  obtain ⟨c0, c1, c2, c3, f0, f1, f2, f3⟩ := rdrC h
  have Hw := Lib.hid (set_err h x)
  have hx : (x == 0) = false := by simpa using hx
  clear h
  go_enter Tryz.func72, Tryz.ntmps72
  go_wp2_with (go_at_call 103; refine (shut_any g _ (by assumption)).mono ?_; rintro e w' ⟨rfl, rfl⟩)
  exact ⟨rfl, rfl, ⟨_, _, _, _, Hw.out⟩, (But.refl (fun k => k = g) _).setCell (p := ⟨g, 3, none⟩) rfl _⟩

theorem rdr_apart {w : World} {g b o n : Nat} {l : List Int} {A : Option Addr} {A' : Option Addr} {n' c' : Nat} {at_ e : Int} (h : Rd w A n l) (hA : A = some ⟨b, o, none⟩) (h0 : 0 < n) (hg : w.heap[g]? = some (rdrBlock g A' n' c' at_ e)) : b ≠ g :=
  h.apart hA h0 hg (fun j x => by
    match j with
    | 0 => simp
    | 1 => simp
    | 2 => simp
    | 3 => simp
    | j + 4 => simp)

/-- The next k bytes are told where they stand, and are read. -/
def TakeIs (B g : Nat) (l : List Int) (at_ : Int) (k : Nat) (w : World) (e : Ending) (w' : World) : Prop :=
  ∃ A c, e = .returned (.slice A k c) ∧ k ≤ c ∧ SlAt A c ∧ Rd w' A k (l.take k) ∧ Rdr w' B g (l.drop k) (at_ + k) ∧ But (fun x => x = g) w w'

theorem take_none (B g : Nat) (at_ : Int) (w : World) (hB : B ≤ g) (ha : 0 ≤ at_ ∧ at_ ≤ 9223372036854775807) (hg : w.heap[g]? = some (rdrBlock g none 0 0 at_ 0)) :
    Calls Tryz.prog 75 #[.pointer (some ⟨g, 0, none⟩), .int .i64 0] w (TakeIs B g [] at_ 0 w) := by
  obtain ⟨c0, c1, c2, c3, f0, f1, f2, f3⟩ := rdrC hg
  have Hw := Lib.hid (set_at (set_left hg none 0 0) at_)
  have Ha := Lib.hid ha
  obtain ⟨a0, a1⟩ := ha
  clear hg
  go_enter Tryz.func75, Tryz.ntmps75
  go_wp2_with (first | (go_at_call 103; refine (shut_any g _ (by assumption)).mono ?_; rintro e w' ⟨rfl, rfl⟩) | (go_at_call 72; refine (fail_ok g _).mono ?_; rintro e w' ⟨rfl, rfl⟩))
  go_ret
  have hb : But (fun x => x = g) w ((w.setCell ⟨g, 1, none⟩ (.slice none 0 0)).setCell ⟨g, 2, none⟩ (.int .i64 at_)) := ((But.refl (fun k => k = g) _).setCell (p := ⟨g, 1, none⟩) rfl _).setCell (p := ⟨g, 2, none⟩) rfl _
  exact ⟨none, 0, rfl, Nat.le_refl _, .inl ⟨rfl, rfl⟩, Rd.nil _ _, ⟨none, 0, 0, Nat.le_refl _, by simp [maxLen], .inl ⟨rfl, rfl⟩, ⟨hB, fun _ _ e => by cases e⟩, by simpa using Ha.out, by simpa using Hw.out, Rd.nil _ _⟩, hb⟩

theorem take_some (B g b o n c k : Nat) (l : List Int) (at_ : Int) (w : World) (hkn : k ≤ n) (hnc : n ≤ c) (hc : c ≤ maxLen) (hB : B ≤ g ∧ B ≤ b ∧ b < g) (ha : 0 ≤ at_ ∧ at_ + (l.length : Int) ≤ 9223372036854775807) (hr : Rd w (some ⟨b, o, none⟩) n l) (hg : w.heap[g]? = some (rdrBlock g (some ⟨b, o, none⟩) n c at_ 0)) :
    Calls Tryz.prog 75 #[.pointer (some ⟨g, 0, none⟩), .int .i64 (k : Int)] w (TakeIs B g l at_ k w) := by
  obtain ⟨c0, c1, c2, c3, f0, f1, f2, f3⟩ := rdrC hg
  obtain ⟨m, hm⟩ : ∃ m, n = k + m := ⟨n - k, by omega⟩
  subst hm
  have hlen := hr.len
  have hb : ∀ v u, But (fun x => x = g) w ((w.setCell ⟨g, 1, none⟩ v).setCell ⟨g, 2, none⟩ u) := fun v u => ((But.refl (fun k => k = g) _).setCell (p := ⟨g, 1, none⟩) rfl _).setCell (p := ⟨g, 2, none⟩) rfl _
  have Hw := fun A n c => Lib.hid (set_at (set_left hg A n c) (at_ + k))
  have Ht := fun v u => Lib.hid ((hr.take hkn).but (hb v u) (fun b' o' e h0 he => by injection e with e; injection e with e1 e2; exact rdr_apart hr rfl (by omega) hg (e1.trans he)))
  have Hd := fun v u => Lib.hid ((hr.drop_ rfl rfl).but (hb v u) (fun b' o' e h0 he => by injection e with e; injection e with e1 e2; exact rdr_apart hr rfl (by omega) hg (e1.trans he)))
  have Ha := Lib.hid (show 0 ≤ at_ + (k : Int) ∧ at_ + (k : Int) + ((l.drop k).length : Int) ≤ 9223372036854775807 by rw [List.length_drop, hlen]; omega)
  have a1 : at_ + (k : Int) ≤ 9223372036854775807 := by omega
  have a0 := ha.1
  unfold maxLen at hc
  have Hb := Lib.hid hb
  clear hg hr hlen hb ha
  go_enter Tryz.func75, Tryz.ntmps75
  by_cases hkc : k = c
  · subst hkc
    have hm0 : m = 0 := by omega
    subst hm0
    go_wp2_with (first | (go_at_call 103; refine (shut_any g _ (by assumption)).mono ?_; rintro e w' ⟨rfl, rfl⟩) | (go_at_call 72; refine (fail_ok g _).mono ?_; rintro e w' ⟨rfl, rfl⟩))
    go_ret
    have h0 := (Hd (.slice (some ⟨b, o, none⟩) 0 0) (.int .i64 (at_ + k))).out
    have hl : l.drop k = [] := List.eq_nil_of_length_eq_zero h0.len
    exact ⟨_, _, rfl, Nat.le_refl _, .inr ⟨b, o, rfl⟩, (Ht _ _).out, ⟨some ⟨b, o, none⟩, 0, 0, Nat.le_refl _, by simp [maxLen], .inr ⟨b, o, rfl⟩, ⟨hB.1, fun _ _ e => by injection e with e; injection e with e1 _; rw [← e1]; exact hB.2⟩, Ha.out, (Hw _ _ _).out, by rw [hl]; exact Rd.nil _ _⟩, Hb.out _ _⟩
  · have hkc : k < c := by omega
    go_wp2_with (first | (go_at_call 103; refine (shut_any g _ (by assumption)).mono ?_; rintro e w' ⟨rfl, rfl⟩) | (go_at_call 72; refine (fail_ok g _).mono ?_; rintro e w' ⟨rfl, rfl⟩))
    go_ret
    exact ⟨_, _, rfl, by omega, .inr ⟨b, o, rfl⟩, (Ht _ _).out, ⟨some ⟨b, o + k, none⟩, m, c - k, by omega, by unfold maxLen; omega, .inr ⟨b, o + k, rfl⟩, ⟨hB.1, fun _ _ e => by injection e with e; injection e with e1 _; rw [← e1]; exact hB.2⟩, Ha.out, (Hw _ _ _).out, (Hd _ _).out⟩, Hb.out _ _⟩

theorem take_ok (B g k : Nat) (l : List Int) (at_ : Int) (w : World) (hk : k ≤ l.length) (h : Rdr w B g l at_) :
    Calls Tryz.prog 75 #[.pointer (some ⟨g, 0, none⟩), .int .i64 (k : Int)] w (TakeIs B g l at_ k w) := by
  obtain ⟨A, n, c, hnc, hc, hs, hB, ha, hg, hr⟩ := h
  have hlen := hr.len
  rcases hs with ⟨rfl, rfl⟩ | ⟨b, o, rfl⟩
  · obtain rfl : n = 0 := by omega
    have hl : l = [] := List.eq_nil_of_length_eq_zero hlen
    subst hl
    obtain rfl : k = 0 := by simpa using hk
    exact take_none B g at_ w hB.1 (by simpa using ha) hg
  · exact take_some B g b o n c k l at_ w (by omega) hnc hc ⟨hB.1, hB.2 b o rfl⟩ ha hr hg

theorem take_short (B g : Nat) (k : Int) (l : List Int) (at_ : Int) (w : World) (hk : (l.length : Int) < k) (h : Rdr w B g l at_) :
    Calls Tryz.prog 75 #[.pointer (some ⟨g, 0, none⟩), .int .i64 k] w (GivesUp g 4 w) := by
  obtain ⟨A, n, c, hnc, hc, hs, hB, ha, hg, hr⟩ := h
  have hlen := hr.len
  obtain ⟨c0, c1, c2, c3, f0, f1, f2, f3⟩ := rdrC hg
  have hk : (n : Int) < k := by omega
  have hk0 : 0 ≤ k := by omega
  have Hf := Lib.hid (fail_err g A n c at_ 4 w hg (by decide))
  clear hg hr hlen ha hs
  go_enter Tryz.func75, Tryz.ntmps75
  go_wp2_with (first | (go_at_call 103; refine (shut_any g _ (by assumption)).mono ?_; rintro e w' ⟨rfl, rfl⟩) | (go_at_call 72; with_reducible refine (fail_ok g _).mono ?_; rintro e w' ⟨rfl, rfl⟩))
  refine Hf.out.mono ?_
  rintro e w' ⟨rfl, h⟩
  exact ⟨rfl, rfl, h⟩

/-- The highest byte first. -/
def beNum (l : List Int) : Int := l.foldl (fun a x => a * 256 + x) 0

theorem number_short (B g k : Nat) (l : List Int) (at_ : Int) (w : World) (hk : l.length < k) (h : Rdr w B g l at_) :
    Calls Tryz.prog 73 #[.pointer (some ⟨g, 0, none⟩), .int .i64 (k : Int)] w (GivesUp g 4 w) := by
  have Ht := Lib.hid (take_short B g k l at_ w (by omega) h)
  clear h
  go_enter Tryz.func73, Tryz.ntmps73
  go_wp2_with fail
  refine Ht.out.mono ?_
  rintro e w' ⟨rfl, h⟩
  exact ⟨rfl, rfl, h⟩

/-- The next k bytes as a number; they are read. -/
def NumIs (kd : IntKind) (B g : Nat) (l : List Int) (at_ : Int) (k : Nat) (w : World) (e : Ending) (w' : World) : Prop :=
  e = .returned (.int kd (beNum (l.take k))) ∧ Rdr w' B g (l.drop k) (at_ + k) ∧ But (fun x => x = g) w w'

theorem beNum_snoc (l : List Int) (x : Int) : beNum (l ++ [x]) = beNum l * 256 + x := by simp [beNum]
theorem beNum_bd (l : List Int) (h : ∀ x ∈ l, 0 ≤ x ∧ x < 256) : 0 ≤ beNum l ∧ beNum l < 256 ^ l.length := by
  obtain ⟨n, hn⟩ : ∃ n, l.length = n := ⟨_, rfl⟩
  induction n generalizing l with
  | zero => rw [List.eq_nil_of_length_eq_zero hn]; simp [beNum]
  | succ n ih =>
    have hl : l ≠ [] := by intro e; rw [e] at hn; simp at hn
    rw [← List.dropLast_concat_getLast hl, beNum_snoc]
    have h1 := ih l.dropLast (fun y hy => h y (List.dropLast_subset l hy)) (by rw [List.length_dropLast]; omega)
    have h2 := h (l.getLast hl) (List.getLast_mem hl)
    rw [List.length_append, List.length_singleton, Int.pow_succ]
    omega
theorem beNum_lt (l : List Int) (h : ∀ x ∈ l, 0 ≤ x ∧ x < 256) : (l.length ≤ 4 → beNum l < 4294967296) ∧ (l.length ≤ 3 → beNum l < 16777216) ∧ (l.length ≤ 2 → beNum l < 65536) ∧ (l.length ≤ 1 → beNum l < 256) := by
  match l, h with
  | [], _ => simp [beNum]
  | [a], h =>
    have h0 := h a (by simp)
    simp [beNum]; omega
  | [a, b], h =>
    have h0 := h a (by simp); have h1 := h b (by simp)
    simp [beNum]; omega
  | [a, b, c], h =>
    have h0 := h a (by simp); have h1 := h b (by simp); have h2 := h c (by simp)
    simp [beNum]; omega
  | [a, b, c, d], h =>
    have h0 := h a (by simp); have h1 := h b (by simp); have h2 := h c (by simp); have h3 := h d (by simp)
    simp [beNum]; omega
  | a :: b :: c :: d :: e :: l, _ => simp
theorem take_snoc_getD (l : List Int) (k : Nat) (h : k < l.length) : l.take (k + 1) = l.take k ++ [l.getD k 0] := by
  rw [List.take_succ_eq_append_getElem h]; simp [List.getD, List.getElem?_eq_getElem h]
theorem getD_mem (l : List Int) (h : ∀ x ∈ l, 0 ≤ x ∧ x < 256) (k : Nat) : 0 ≤ l.getD k 0 ∧ l.getD k 0 < 256 := by
  by_cases hk : k < l.length
  · have := h (l[k]) (List.getElem_mem hk)
    simpa [List.getD, List.getElem?_eq_getElem hk] using this
  · simp [List.getD, List.getElem?_eq_none (by omega : l.length ≤ k)]

theorem number_ok (B g k : Nat) (l : List Int) (at_ : Int) (w : World) (hk : k ≤ l.length) (hk4 : k ≤ 4) (h : Rdr w B g l at_) :
    Calls Tryz.prog 73 #[.pointer (some ⟨g, 0, none⟩), .int .i64 (k : Int)] w (NumIs .u32 B g l at_ k w) := by
  have Ht := Lib.hid (take_ok B g k l at_ w hk h)
  clear h
  go_enter Tryz.func73, Tryz.ntmps73
  go_wp2_with fail
  refine Ht.out.mono ?_
  rintro e w1 ⟨A, c, rfl, hkc, hs, hr, hR, hb⟩
  have HR := Lib.hid hR
  have Hb := Lib.hid hb
  have hlen := hr.len
  clear hR hb hs
  obtain ⟨lt, el⟩ : ∃ lt, lt = l.take k := ⟨_, rfl⟩
  rw [← el] at hr hlen
  have El := Lib.hid el
  have Hlen := Lib.hid hlen
  clear el hlen
  go_wp2_with fail
  go_loopg [5, 12] k (fun gk a i wr => ∃ j : Nat, Hid (gk + j = k) ∧ j ≤ k ∧ i = .int .i64 (j : Int) ∧ a = .int .u32 (beNum (lt.take j)) ∧ wr = w1)
  case atStart => exact ⟨0, rfl, Nat.zero_le _, rfl, rfl, rfl⟩
  case round =>
    obtain ⟨j, hgk, hj, rfl, rfl, rfl⟩ := hrel
    by_cases hlt : j < k
    · obtain ⟨q, hrunq, hcellq, hqb⟩ := hr.index (c := c) hlt
      have hx := getD_mem lt hr.byte j
      have hn0 := (beNum_bd (lt.take j) (fun x hx => hr.byte x (List.mem_of_mem_take hx))).1
      have hn1 := (beNum_lt (lt.take j) (fun x hx => hr.byte x (List.mem_of_mem_take hx))).2.1 (by rw [List.length_take]; omega)
      have Hs := Lib.hid (take_snoc_getD lt j (by rw [Hlen.out]; exact hlt))
      obtain ⟨x, ex⟩ : ∃ x, lt.getD j 0 = x := ⟨_, rfl⟩
      obtain ⟨y, ey⟩ : ∃ y, beNum (lt.take j) = y := ⟨_, rfl⟩
      rw [ex] at hcellq hx
      rw [ey] at hn0 hn1 ⊢
      have hor := or32 y x ⟨hn0, hn1⟩ hx
      have Hy := Lib.hid (show beNum (lt.take (j + 1)) = y * 256 + x by rw [Hs.out, beNum_snoc, ex, ey])
      clear ex ey
      obtain ⟨hx0, hx1⟩ := hx
      go_wp2_with fail
      go_roundg (gk - 1)
      case measure => have := hgk.out; omega
      case rel => exact ⟨j + 1, by have := hgk.out; show gk - 1 + (j + 1) = _; omega, by omega, by go_num, by rw [Hy.out], rfl⟩
    · obtain rfl : j = k := by omega
      go_wp2_with fail
      go_ret
      refine ⟨?_, HR.out, Hb.out⟩
      have h1 := El.out
      have h2 := Hlen.out
      show Ending.returned (Value.int .u32 (beNum (lt.take j))) = _
      rw [← h1, List.take_of_length_le (by omega)]

theorem u8_ok (B g : Nat) (l : List Int) (at_ : Int) (w : World) (hk : 1 ≤ l.length) (hl : ∀ x ∈ l, 0 ≤ x ∧ x < 256) (h : Rdr w B g l at_) :
    Calls Tryz.prog 34 #[.pointer (some ⟨g, 0, none⟩)] w (NumIs .u8 B g l at_ 1 w) := by
  have Hn := Lib.hid (number_ok B g 1 l at_ w hk (by omega) h)
  have h0 := (beNum_bd (l.take 1) (fun x hx => hl x (List.mem_of_mem_take hx))).1
  have h1 := (beNum_lt (l.take 1) (fun x hx => hl x (List.mem_of_mem_take hx))).2.2.2 (by rw [List.length_take]; omega)
  clear h hl
  unfold NumIs at Hn ⊢
  obtain ⟨y, ey⟩ : ∃ y, beNum (l.take 1) = y := ⟨_, rfl⟩
  rw [ey] at h0 h1 Hn ⊢
  clear ey
  go_enter Tryz.func34, Tryz.ntmps34
  go_wp2_with fail
  refine Hn.out.mono ?_
  rintro e w' ⟨rfl, h⟩
  have Hh := Lib.hid h
  clear h
  go_wp2_with fail
  go_ret
  exact ⟨rfl, Hh.out⟩

theorem u16_ok (B g : Nat) (l : List Int) (at_ : Int) (w : World) (hk : 2 ≤ l.length) (hl : ∀ x ∈ l, 0 ≤ x ∧ x < 256) (h : Rdr w B g l at_) :
    Calls Tryz.prog 35 #[.pointer (some ⟨g, 0, none⟩)] w (NumIs .u16 B g l at_ 2 w) := by
  have Hn := Lib.hid (number_ok B g 2 l at_ w hk (by omega) h)
  have h0 := (beNum_bd (l.take 2) (fun x hx => hl x (List.mem_of_mem_take hx))).1
  have h1 := (beNum_lt (l.take 2) (fun x hx => hl x (List.mem_of_mem_take hx))).2.2.1 (by rw [List.length_take]; omega)
  clear h hl
  unfold NumIs at Hn ⊢
  obtain ⟨y, ey⟩ : ∃ y, beNum (l.take 2) = y := ⟨_, rfl⟩
  rw [ey] at h0 h1 Hn ⊢
  clear ey
  go_enter Tryz.func35, Tryz.ntmps35
  go_wp2_with fail
  refine Hn.out.mono ?_
  rintro e w' ⟨rfl, h⟩
  have Hh := Lib.hid h
  clear h
  go_wp2_with fail
  go_ret
  exact ⟨rfl, Hh.out⟩

theorem u32_ok (B g : Nat) (l : List Int) (at_ : Int) (w : World) (hk : 4 ≤ l.length) (h : Rdr w B g l at_) :
    Calls Tryz.prog 36 #[.pointer (some ⟨g, 0, none⟩)] w (NumIs .u32 B g l at_ 4 w) := by
  have Hn := Lib.hid (number_ok B g 4 l at_ w hk (by omega) h)
  clear h
  go_enter Tryz.func36, Tryz.ntmps36
  go_wp2_with fail
  refine Hn.out.mono ?_
  rintro e w' ⟨rfl, h⟩
  have Hh := Lib.hid h
  clear h
  go_wp2_with fail
  go_ret
  exact ⟨rfl, Hh.out⟩

theorem u8_short (B g : Nat) (l : List Int) (at_ : Int) (w : World) (hk : l.length < 1) (h : Rdr w B g l at_) :
    Calls Tryz.prog 34 #[.pointer (some ⟨g, 0, none⟩)] w (GivesUp g 4 w) := by
  have Hn := Lib.hid (number_short B g 1 l at_ w hk h)
  clear h
  go_enter Tryz.func34, Tryz.ntmps34
  go_wp2_with fail
  refine Hn.out.mono ?_
  rintro e w' ⟨rfl, h⟩
  exact ⟨rfl, rfl, h⟩
theorem u16_short (B g : Nat) (l : List Int) (at_ : Int) (w : World) (hk : l.length < 2) (h : Rdr w B g l at_) :
    Calls Tryz.prog 35 #[.pointer (some ⟨g, 0, none⟩)] w (GivesUp g 4 w) := by
  have Hn := Lib.hid (number_short B g 2 l at_ w hk h)
  clear h
  go_enter Tryz.func35, Tryz.ntmps35
  go_wp2_with fail
  refine Hn.out.mono ?_
  rintro e w' ⟨rfl, h⟩
  exact ⟨rfl, rfl, h⟩
theorem u32_short (B g : Nat) (l : List Int) (at_ : Int) (w : World) (hk : l.length < 4) (h : Rdr w B g l at_) :
    Calls Tryz.prog 36 #[.pointer (some ⟨g, 0, none⟩)] w (GivesUp g 4 w) := by
  have Hn := Lib.hid (number_short B g 4 l at_ w hk h)
  clear h
  go_enter Tryz.func36, Tryz.ntmps36
  go_wp2_with fail
  refine Hn.out.mono ?_
  rintro e w' ⟨rfl, h⟩
  exact ⟨rfl, rfl, h⟩

/-- Rows of bytes told: a row of the call's own. -/
def BytesAre (B g : Nat) (l rest : List Int) (at_ : Int) (w : World) (e : Ending) (w' : World) : Prop :=
  ∃ A c, e = .returned (.slice A l.length c) ∧ l.length ≤ c ∧ c ≤ maxLen ∧ OwnB w' w.heap.size A l.length c l ∧ Rdr w' B g rest at_ ∧ But (fun x => x = g) w w'

theorem clone_any (A : Option Addr) (n c : Nat) (l : List Int) (w : World) (hn : n ≤ 140737488355328) (h : Rd w A n l) :
    Calls Tryz.prog 70 #[.slice A n c] w (RowIs n l w) := by
  have hnil : ∀ W : World, (binOp .eql 22 (.slice A n c) (.slice none 0 0)).run Tryz.prog W = .ok (.bool A.isNone) W := fun W => Lib.run_eql_slice_nil W _ _ A n c 0 0 Tryz.underlying22
  cases A with
  | none =>
    obtain rfl : n = 0 := by
      rcases Nat.eq_zero_or_pos n with h0 | h0
      · exact h0
      · obtain ⟨b, o, e, _⟩ := h.at_ h0; cases e
    have hl : l = [] := List.eq_nil_of_length_eq_zero h.len
    subst hl
    have Ho := Lib.hid (OwnB.nil w w.heap.size)
    clear h
    go_enter Tryz.func70, Tryz.ntmps70
    go_wp2_with fail
    go_ret
    exact ⟨none, 0, rfl, Nat.le_refl _, by simp [maxLen], Ho.out, Below.refl _ _⟩
  | some a =>
    have hb := (Below.refl w.heap.size w).alloc (Nat.le_refl _) (.cells #[] 5)
    have Ho := Lib.hid (OwnB.made (w := w.alloc (.cells #[] 5)) (B := w.heap.size) (g := w.heap.size) (cap := 0) (cur := #[]) (heap_alloc_new w _) (Nat.le_refl _) (by simp [maxLen]) rfl)
    have Hr := Lib.hid (h.below hb)
    have Hb := Lib.hid hb
    clear h hb
    go_enter Tryz.func70, Tryz.ntmps70
    go_wp2_with (refine wpList_app rfl (.tmp 5) (.tmp 6) rfl w.heap.size (some ⟨w.heap.size, 0, none⟩) (some a) 0 0 n c [] l rfl rfl Ho.out Hr.out (by omega) (by simp) ?_; intro A2 c2 w2 hown2 _ hb2 _)
    go_ret
    have h2 := hown2
    rw [Nat.zero_add, List.nil_append] at h2
    exact ⟨A2, c2, by simp, h2.cap, h2.capMax, h2, Hb.out.trans hb2⟩

theorem Rdr.but {S : Nat → Prop} {w w' : World} {B g : Nat} {l : List Int} {at_ : Int} (h : Rdr w B g l at_) (hb : But S w w') (hS : ∀ k, S k → k < B) : Rdr w' B g l at_ := by
  obtain ⟨A, n, c, hnc, hc, hs, hB, ha, hg, hr⟩ := h
  refine ⟨A, n, c, hnc, hc, hs, hB, ha, hb.blk hg (fun x => by have := hS _ x; omega), hr.but hb (fun b o e _ x => by have := hB.2 b o e; have := hS _ x; omega)⟩
/-- The same: what has turned lies ahead of the reading, or is younger than the reader. -/
theorem Rdr.butY {S : Nat → Prop} {w w' : World} {B g : Nat} {l : List Int} {at_ : Int} (h : Rdr w B g l at_) (hb : But S w w') (hS : ∀ k, S k → k < B ∨ g < k) : Rdr w' B g l at_ := by
  obtain ⟨A, n, c, hnc, hc, hs, hB, ha, hg, hr⟩ := h
  refine ⟨A, n, c, hnc, hc, hs, hB, ha, hb.blk hg (fun x => by have := hS _ x; omega), hr.but hb (fun b o e _ x => by have := hB.2 b o e; have := hS _ x; omega)⟩
theorem Rdr.below {w w' : World} {B g : Nat} {l : List Int} {at_ : Int} (h : Rdr w B g l at_) (hb : Below w.heap.size w w') : Rdr w' B g l at_ :=
  h.but (But.of (S := fun _ => False) hb) (fun _ x => x.elim)
theorem Rdr.bytes {w : World} {B g : Nat} {l : List Int} {at_ : Int} (h : Rdr w B g l at_) : ∀ x ∈ l, 0 ≤ x ∧ x < 256 := by
  obtain ⟨A, n, c, hnc, hc, hs, hB, ha, hg, hr⟩ := h
  exact hr.byte

theorem bytes_ok (B g k : Nat) (l : List Int) (at_ : Int) (w : World) (hk : k ≤ l.length) (hl : l.length ≤ 140737488355328) (h : Rdr w B g l at_) :
    Calls Tryz.prog 38 #[.pointer (some ⟨g, 0, none⟩), .int .i64 (k : Int)] w (BytesAre B g (l.take k) (l.drop k) (at_ + k) w) := by
  have Ht := Lib.hid (take_ok B g k l at_ w hk h)
  have hlk : (l.take k).length = k := by rw [List.length_take]; omega
  have hk2 : k ≤ 140737488355328 := by omega
  have Hlk := Lib.hid hlk
  clear h hlk
  unfold BytesAre
  rw [Hlk.out]
  go_enter Tryz.func38, Tryz.ntmps38
  go_wp2_with fail
  refine Ht.out.mono ?_
  rintro e w1 ⟨A, c, rfl, hkc, hs, hr, hR, hb⟩
  have HR := Lib.hid hR
  have Hb := Lib.hid hb
  clear hR hb
  go_wp2_with fail
  refine (clone_any A k c _ w1 hk2 hr).mono ?_
  rintro e w2 ⟨A2, c2, rfl, hkc2, hc2, hown, hb2⟩
  have Hown := Lib.hid hown
  have Hb2 := Lib.hid hb2
  clear hown hb2
  go_wp2_with fail
  go_ret
  exact ⟨A2, c2, rfl, hkc2, hc2, Hown.out.mono Hb.out.size, HR.out.below Hb2.out, Hb.out.trans (But.of Hb2.out)⟩

theorem bytes_short (B g : Nat) (k : Int) (l : List Int) (at_ : Int) (w : World) (hk : (l.length : Int) < k) (h : Rdr w B g l at_) :
    Calls Tryz.prog 38 #[.pointer (some ⟨g, 0, none⟩), .int .i64 k] w (GivesUp g 4 w) := by
  have Hn := Lib.hid (take_short B g k l at_ w hk h)
  clear h
  go_enter Tryz.func38, Tryz.ntmps38
  go_wp2_with fail
  refine Hn.out.mono ?_
  rintro e w' ⟨rfl, h⟩
  exact ⟨rfl, rfl, h⟩

theorem left_ok (B g : Nat) (l : List Int) (at_ : Int) (w : World) (h : Rdr w B g l at_) :
    Calls Tryz.prog 76 #[.pointer (some ⟨g, 0, none⟩)] w fun e w' => e = .returned (.int .i64 (l.length : Int)) ∧ w = w' := by
  obtain ⟨A, n, c, hnc, hc, hs, hB, ha, hg, hr⟩ := h
  rw [hr.len]
  exact left_any g A n c at_ 0 w hg

theorem fail_any (B g : Nat) (x : Int) (l : List Int) (at_ : Int) (w : World) (hx : x ≠ 0) (h : Rdr w B g l at_) :
    Calls Tryz.prog 72 #[.pointer (some ⟨g, 0, none⟩), .int .i64 x] w (GivesUp g x w) := by
  obtain ⟨A, n, c, hnc, hc, hs, hB, ha, hg, hr⟩ := h
  exact fail_err g A n c at_ x w hg hx

theorem rest_ok (B g : Nat) (l : List Int) (at_ : Int) (w : World) (hl : l.length ≤ 140737488355328) (h : Rdr w B g l at_) :
    Calls Tryz.prog 39 #[.pointer (some ⟨g, 0, none⟩)] w (BytesAre B g l [] (at_ + l.length) w) := by
  have Hl := Lib.hid (left_ok B g l at_ w h)
  have hb := bytes_ok B g l.length l at_ w (Nat.le_refl _) hl h
  rw [List.take_length, List.drop_length] at hb
  have Hb := Lib.hid hb
  clear h hb
  go_enter Tryz.func39, Tryz.ntmps39
  go_wp2_with fail
  refine Hl.out.mono ?_
  rintro e w' ⟨rfl, rfl⟩
  go_wp2_with fail
  refine Hb.out.mono ?_
  rintro e w' ⟨A, c, rfl, h⟩
  have Hh := Lib.hid h
  clear h
  go_wp2_with fail
  go_ret
  exact ⟨A, c, rfl, Hh.out⟩

/-- A number is told and read; of what was there only the reader has turned. -/
def ToldIs (kd : IntKind) (x : Int) (B g : Nat) (rest : List Int) (at_ : Int) (w : World) (e : Ending) (w' : World) : Prop :=
  e = .returned (.int kd x) ∧ Rdr w' B g rest at_ ∧ But (fun k => k = g) w w'
theorem u8_told (B g : Nat) (x : Int) (l : List Int) (at_ : Int) (w : World) (h : Rdr w B g (x :: l) at_) :
    Calls Tryz.prog 34 #[.pointer (some ⟨g, 0, none⟩)] w (ToldIs .u8 x B g l (at_ + 1) w) :=
  (u8_ok B g (x :: l) at_ w (by simp) h.bytes h).mono fun e w' ⟨he, hr, hb⟩ => ⟨by rw [he]; simp [beNum], by simpa using hr, hb⟩
theorem u16_told (B g : Nat) (x y : Int) (l : List Int) (at_ : Int) (w : World) (h : Rdr w B g (x :: y :: l) at_) :
    Calls Tryz.prog 35 #[.pointer (some ⟨g, 0, none⟩)] w (ToldIs .u16 (x * 256 + y) B g l (at_ + 2) w) :=
  (u16_ok B g (x :: y :: l) at_ w (by simp) h.bytes h).mono fun e w' ⟨he, hr, hb⟩ => ⟨by rw [he]; simp [beNum], by simpa using hr, hb⟩
theorem u32_told (B g : Nat) (a b c d : Int) (l : List Int) (at_ : Int) (w : World) (h : Rdr w B g (a :: b :: c :: d :: l) at_) :
    Calls Tryz.prog 36 #[.pointer (some ⟨g, 0, none⟩)] w (ToldIs .u32 (((a * 256 + b) * 256 + c) * 256 + d) B g l (at_ + 4) w) :=
  (u32_ok B g (a :: b :: c :: d :: l) at_ w (by simp) h).mono fun e w' ⟨he, hr, hb⟩ => ⟨by rw [he]; simp [beNum], by simpa using hr, hb⟩
/-- Rows of bytes told, the lists by name. -/
theorem bytes_told (B g k : Nat) (l l1 l2 : List Int) (at_ : Int) (w : World) (hk : l1.length = k) (hl : l = l1 ++ l2) (hlen : l.length ≤ 140737488355328) (h : Rdr w B g l at_) :
    Calls Tryz.prog 38 #[.pointer (some ⟨g, 0, none⟩), .int .i64 (k : Int)] w (BytesAre B g l1 l2 (at_ + k) w) := by
  have hb := bytes_ok B g k l at_ w (by rw [hl, List.length_append]; omega) hlen h
  rw [hl, List.take_left' hk, List.drop_left' hk] at hb
  exact hb

/-- The same, the length by name. -/
def BytesIs (B g k : Nat) (l rest : List Int) (at_ : Int) (w : World) (e : Ending) (w' : World) : Prop :=
  ∃ A c, e = .returned (.slice A k c) ∧ k ≤ c ∧ c ≤ maxLen ∧ OwnB w' w.heap.size A k c l ∧ Rdr w' B g rest at_ ∧ But (fun x => x = g) w w'
theorem bytes_is (B g k : Nat) (l l1 l2 : List Int) (at_ : Int) (w : World) (hk : l1.length = k) (hl : l = l1 ++ l2) (hlen : l.length ≤ 140737488355328) (h : Rdr w B g l at_) :
    Calls Tryz.prog 38 #[.pointer (some ⟨g, 0, none⟩), .int .i64 (k : Int)] w (BytesIs B g k l1 l2 (at_ + k) w) := by
  have := bytes_told B g k l l1 l2 at_ w hk hl hlen h
  subst hk
  exact this
theorem rest_is (B g k : Nat) (l : List Int) (at_ : Int) (w : World) (hk : l.length = k) (hl : k ≤ 140737488355328) (h : Rdr w B g l at_) :
    Calls Tryz.prog 39 #[.pointer (some ⟨g, 0, none⟩)] w (BytesIs B g k l [] (at_ + k) w) := by
  subst hk
  exact rest_ok B g l at_ w hl h

/-- A variable that a closure captures. -/
def Box (w : World) (p : Nat) (t : TypeId) (v : Value) : Prop := w.heap[p]? = some (.cells #[v] t (0, 0))
theorem Box.cell {w : World} {p : Nat} {t : TypeId} {v : Value} (h : Box w p t v) : w.cell? ⟨p, 0, none⟩ = some v := by
  unfold Box at h; simp [World.cell?, h]
theorem Box.free {w : World} {p : Nat} {t : TypeId} {v : Value} (h : Box w p t v) : w.frozen? ⟨p, 0, none⟩ = false := by
  unfold Box at h; simp [World.frozen?, h]
theorem Box.set_ {w : World} {p : Nat} {t : TypeId} {v : Value} (h : Box w p t v) (u : Value) : Box (w.setCell ⟨p, 0, none⟩ u) p t u := by
  unfold Box at h ⊢; rw [setCell_block h]; simp
theorem Box.but {S : Nat → Prop} {w w' : World} {p : Nat} {t : TypeId} {v : Value} (h : Box w p t v) (hb : But S w w') (hS : ¬ S p) : Box w' p t v := hb.blk h hS
theorem Box.below {w w' : World} {B p : Nat} {t : TypeId} {v : Value} (h : Box w p t v) (hb : Below B w w') (hp : p < B) : Box w' p t v := (hb.block p hp).trans h
theorem Box.lt {w : World} {p : Nat} {t : TypeId} {v : Value} (h : Box w p t v) : p < w.heap.size := lt_of_block h
theorem Box.new (w : World) (t : TypeId) (v : Value) : Box (w.alloc (.cells #[v] t)) w.heap.size t v := heap_alloc_new w _
theorem Box.other {w : World} {p : Nat} {t : TypeId} {v : Value} (h : Box w p t v) (q : Addr) (hq : p ≠ q.block) (u : Value) : Box (w.setCell q u) p t v := (Below.heap_setCell _ _ _ _ hq).trans h
theorem Box.alloc {w : World} {p : Nat} {t : TypeId} {v : Value} (h : Box w p t v) (o : Obj) : Box (w.alloc o) p t v := (Below.heap_alloc _ _ _ h.lt).trans h

end Go.Proofs.YtheknmihnkennaaGreat
