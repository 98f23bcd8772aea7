/-
  The contract of slices.SortFunc at the program's alarms, with inOrder.
-/
import Derived.Test.YtlpgabbnldalhaaAlmRow
import Derived.Test.YtlpgabbnldalhaaAlmLaid
import Derived.Shelf.SlSortCmp.NoneTotal
namespace Go.Proofs.Ytlpgabbnldalhaa
set_option maxRecDepth 10000
open Go.RowKit
set_option linter.unusedSimpArgs false
set_option linter.unusedVariables false

theorem ltOf_true {x y : Int × Int} : ltOf cmpA x y = true ↔ befW x y := by unfold ltOf; rw [decide_eq_true_iff]; exact cmpA_neg
theorem ltOf_false {x y : Int × Int} : ltOf cmpA x y = false ↔ ¬ befW x y := by rw [← ltOf_true]; simp
theorem swoA : Sort.SWO (ltOf cmpA) where
  irrefl x := ltOf_false.2 befW.irrefl
  trans x y z h1 h2 := ltOf_true.2 ((ltOf_true.1 h1).trans (ltOf_true.1 h2))
  ntrans x y z h1 h2 := by
    have h3 := ltOf_false.1 h1
    have h4 := ltOf_false.1 h2
    refine ltOf_false.2 ?_
    unfold befW at *
    omega
theorem flatK_get (d : Array (Int × Int)) (t : Nat) (h : t < d.size * 2) : (flatA d.toList)[t]? = some (Sort.flatK encA 2 d)[t]! := by
  rw [Sort.get_flatK _ _ _ t h]
  have hi : t / 2 < d.size := by omega
  obtain ⟨f0, f1⟩ := flatA_get d.toList (i := t / 2) (by simpa using hi)
  have e : d.toList.getD (t / 2) (0, 0) = d[t / 2]! := by
    rw [getElem!_pos d (t / 2) hi]
    simp [List.getD, hi]
  rw [e] at f0 f1
  rcases Nat.mod_two_eq_zero_or_one t with h2 | h2
  · rw [h2, show t = t / 2 * 2 by omega, show t / 2 * 2 / 2 = t / 2 by omega]
    rw [f0]; rfl
  · rw [h2, show t = t / 2 * 2 + 1 by omega, show (t / 2 * 2 + 1) / 2 = t / 2 by omega]
    rw [f1]; rfl
theorem putRow_blk {w : World} {g o : Nat} {T : TypeId} {C : Array Value} (hg : w.heap[g]? = some (.cells C T (0, 0))) (F : Array Value) :
    (Sort.putRow (fun v => v) w g o F).heap[g]? = some (.cells (Sort.putCells (fun v => v) o F C) T (0, 0)) ∧ (Sort.putCells (fun v : Value => v) o F C).size = C.size := by
  refine ⟨?_, by simp [Sort.putCells]⟩
  unfold Sort.putRow Sort.mapBlock
  simp [Array.getElem?_modify, hg, Sort.onCells]
def SortIsA (A : Option Addr) (n c : Nat) (M : AL) (w : World) (e : Ending) (w' : World) : Prop :=
  e = .returned (.tuple #[]) ∧ ∃ M', M'.Perm M ∧ (∀ i j, i < j → j < n → ¬ befW (M'.getD j (0, 0)) (M'.getD i (0, 0))) ∧ SlV w' 65 2 (.slice A n c) n (flatA M') ∧ But (fun k => (Value.slice A n c).ownBlock = some k) w w'
theorem sort_anyA (A : Option Addr) (n c : Nat) (M : AL) (w : World) (h : SlV w 65 2 (.slice A n c) n (flatA M)) (hn : M.length = n) (hb : n ≤ 1000000) :
    Calls Try.prog 34 #[.slice A n c, .func (.func 35) #[] #[]] w (SortIsA A n c M w) := by
  have h' := h
  rcases h' with ⟨e, en, _⟩ | ⟨g, o, c', e, hr⟩
  · injection e with e1 e2 e3
    subst e1; subst e2; subst e3
    have hM : M = [] := List.eq_nil_of_length_eq_zero hn
    subst hM
    refine (AnyF.slices_SortFunc_none sortLaid none 0 _ w).mono ?_
    rintro e w' ⟨rfl, rfl⟩
    exact ⟨rfl, [], List.Perm.refl _, fun i j h1 h2 => by omega, h, But.refl _ _⟩
  · injection e with e1 e2 e3
    subst e1; subst e3
    obtain ⟨C, hg, hC, hl, hnc, hcm, hcl⟩ := hr
    have hgl := lt_of_block hg
    have hsz : M.toArray.size = n := by simpa using hn
    have hH : Sort.HoldsK encA 2 w g o M.toArray := by
      intro t ht
      rw [Sort.size_flatK, hsz] at ht
      refine ⟨?_, blk_free hg _⟩
      rw [blk_cell hg, hcl t (by rw [flatA_length]; omega)]
      exact flatK_get M.toArray t (by rw [hsz]; exact ht)
    have eg : ∀ args w, (callFunc 35 args).run Try.prog w = .ok (.enter 35 args) w := enters_of Try.func35 (by kernel_rfl) rfl
    have hcon := AnyQ.slices_SortFunc sortLaid 2 Try.isAgg65 Try.sizeOf65 encA (fun _ => rfl) (fun x v hv => by simp [encA] at hv; rcases hv with rfl | rfl <;> rfl) cmpA swoA 35 #[] g o c M.toArray w eg
      (fun m os dk hd x y => by
        refine (ord_any x y _ _ rfl).mono ?_
        rintro e w' ⟨he, q, os', hw⟩
        exact ⟨he, q, os', hw⟩) hH hgl (by omega)
    rw [hsz] at hcon
    refine hcon.mono ?_
    rintro e w' ⟨rfl, d', q, os, hp, hs, hw⟩
    obtain ⟨hps, _, hpp⟩ := hp
    rw [hsz] at hps
    have hpp2 : d'.toList.Perm M := by
      have e1 : d'.extract 0 n = d' := by rw [← hps]; simp
      have e2 : M.toArray.extract 0 n = M.toArray := by rw [← hsz]; simp
      rw [e1, e2] at hpp
      simpa using hpp
    have hdl : d'.toList.length = n := by simpa using hps
    refine ⟨rfl, d'.toList, hpp2, fun i j h1 h2 hbf => ?_, ?_, ?_⟩
    · have := hs i j (Nat.zero_le _) h1 h2
      rw [getElem!_pos d' i (by omega), getElem!_pos d' j (by omega)] at this
      have h3 := ltOf_false.1 this
      refine h3 ?_
      simpa [List.getD, (show i < d'.size by omega), (show j < d'.size by omega)] using hbf
    · obtain ⟨p1, p2⟩ := putRow_blk (o := o) (show (Sort.ahead w q).heap[g]? = some (.cells C 65 (0, 0)) from hg) (Sort.flatK encA 2 d')
      have hblk : w'.heap[g]? = some (.cells (Sort.putCells (fun v => v) o (Sort.flatK encA 2 d') C) 65 (0, 0)) := by
        rw [hw]
        show (Sort.grow (Sort.putRow (fun v => v) (Sort.ahead w q) g o (Sort.flatK encA 2 d')) os).heap[g]? = _
        rw [Sort.heap_grow_old _ os (lt_of_block p1)]
        exact p1
      refine .inr ⟨g, o, c, rfl, _, hblk, by rw [p2]; exact hC, by rw [flatA_length, hdl], hnc, hcm, fun t ht => ?_⟩
      rw [flatA_length, hdl] at ht
      rw [flatK_get d' t (by omega)]
      have hCt : o + t < C.size := by omega
      have hin : o ≤ o + t ∧ o + t < o + (Sort.flatK encA 2 d').size := ⟨by omega, by rw [Sort.size_flatK, hps]; omega⟩
      simp only [Sort.putCells, Array.getElem?_mapIdx, Array.getElem?_eq_getElem hCt, Option.map_some, if_pos hin]
      rw [show o + t - o = t by omega]
    · have e0 : (Sort.ahead w q).heap.size = w.heap.size := rfl
      have e1 : (Sort.putRow (fun v => v) (Sort.ahead w q) g o (Sort.flatK encA 2 d')).heap.size = w.heap.size := by simp [Sort.putRow, Sort.mapBlock, e0]
      rw [hw]
      refine ⟨rfl, rfl, rfl, ?_, fun k hk hn => ?_⟩
      · show w.heap.size ≤ (Sort.grow (Sort.putRow (fun v => v) (Sort.ahead w q) g o (Sort.flatK encA 2 d')) os).heap.size
        rw [Sort.size_grow, e1]
        exact Nat.le_add_right _ _
      · show (Sort.grow (Sort.putRow (fun v => v) (Sort.ahead w q) g o (Sort.flatK encA 2 d')) os).heap[k]? = _
        rw [Sort.heap_grow_old _ os (by rw [e1]; exact hk)]
        have hkg : g ≠ k := fun e => hn (by rw [e]; rfl)
        simp only [Sort.putRow, Sort.mapBlock, Array.getElem?_modify, if_neg hkg]
        rfl
end Go.Proofs.Ytlpgabbnldalhaa
