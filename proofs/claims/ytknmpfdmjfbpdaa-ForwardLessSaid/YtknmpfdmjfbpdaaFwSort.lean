/-
  The contract of slices.SortFunc at forwards, with the closure that puts them in order.
-/
import Derived.Test.YtknmpfdmjfbpdaaFwOrd
import Derived.Test.YtknmpfdmjfbpdaaFwLaid
import Derived.Shelf.SlSortCmp.NoneTotal
namespace Go.Proofs.Ytknmpfdmjfbpdaa
set_option maxRecDepth 10000
open Go.RowKit
set_option linter.unusedSimpArgs false
set_option linter.unusedVariables false

theorem ltW_true {x y : Fw} : ltOf cmpW x y = true ↔ fwLt x y = true := by unfold ltOf; rw [decide_eq_true_iff]; exact cmpW_neg
theorem ltW_false {x y : Fw} : ltOf cmpW x y = false ↔ ¬ fwLt x y = true := by rw [← ltW_true]; simp
theorem swoW : Sort.SWO (ltOf cmpW) where
  irrefl x := ltW_false.2 (fun h => fwLt_asym h h)
  trans x y z h1 h2 := ltW_true.2 (fwLt_trans (ltW_true.1 h1) (ltW_true.1 h2))
  ntrans x y z h1 h2 := by
    have h3 := ltW_false.1 h1
    have h4 := ltW_false.1 h2
    refine ltW_false.2 ?_
    rw [fwLt_iff] at *
    omega
instance : Inhabited Fw := ⟨fw0⟩
theorem flatKW_get (d : Array Fw) (t : Nat) (h : t < d.size * 4) : (flatW4 d.toList)[t]? = some (Sort.flatK fwV 4 d)[t]! := by
  rw [Sort.get_flatK _ _ _ t h]
  have hi : t / 4 < d.size := by omega
  have e : d.toList.getD (t / 4) fw0 = d[t / 4]! := by
    rw [getElem!_pos d (t / 4) hi]
    simp [List.getD, hi]
  have hm : t % 4 < 4 := Nat.mod_lt _ (by omega)
  have h1 := flatW4_get d.toList (i := t / 4) (k := t % 4) (by simpa using hi) hm
  rw [show t / 4 * 4 + t % 4 = t by omega, e] at h1
  rw [h1]
  have key : ∀ (l : List Value) (k : Nat), k < l.length → l[k]? = some l[k]! := fun l k hk => by
    rw [List.getElem?_eq_getElem hk, getElem!_pos l k hk]
  exact key _ _ hm
theorem putRowW_blk {w : World} {g o : Nat} {T : TypeId} {C : Array Value} (hg : w.heap[g]? = some (.cells C T (0, 0))) (F : Array Value) :
    (Sort.putRow (fun v => v) w g o F).heap[g]? = some (.cells (Sort.putCells (fun v => v) o F C) T (0, 0)) ∧ (Sort.putCells (fun v : Value => v) o F C).size = C.size := by
  refine ⟨?_, by simp [Sort.putCells]⟩
  unfold Sort.putRow Sort.mapBlock
  simp [Array.getElem?_modify, hg, Sort.onCells]
def SortIsW (A : Option Addr) (n c : Nat) (M : FWL) (w : World) (e : Ending) (w' : World) : Prop :=
  e = .returned (.tuple #[]) ∧ ∃ M', M'.Perm M ∧ (∀ i j, i < j → j < n → ¬ fwLt (M'.getD j fw0) (M'.getD i fw0) = true) ∧ SlV w' 40 4 (.slice A n c) n (flatW4 M') ∧ But (fun k => (Value.slice A n c).ownBlock = some k) w w'
theorem sort_anyW (A : Option Addr) (n c : Nat) (M : FWL) (w : World) (h : SlV w 40 4 (.slice A n c) n (flatW4 M)) (hn : M.length = n) (hb : n ≤ 1000000) :
    Calls Try.prog 29 #[.slice A n c, .func (.func 30) #[] #[]] w (SortIsW A n c M w) := by
  have h' := h
  rcases h' with ⟨e, en, _⟩ | ⟨g, o, c', e, hr⟩
  · injection e with e1 e2 e3
    subst e1; subst e2; subst e3
    have hM : M = [] := List.eq_nil_of_length_eq_zero hn
    subst hM
    refine (AnyF.slices_SortFunc_none sortLaidW none 0 _ w).mono ?_
    rintro e w' ⟨rfl, rfl⟩
    exact ⟨rfl, [], List.Perm.refl _, fun i j h1 h2 => by omega, h, But.refl _ _⟩
  · injection e with e1 e2 e3
    subst e1; subst e3
    obtain ⟨C, hg, hC, hl, hnc, hcm, hcl⟩ := hr
    have hgl := lt_of_block hg
    have hsz : M.toArray.size = n := by simpa using hn
    have hH : Sort.HoldsK fwV 4 w g o M.toArray := by
      intro t ht
      rw [Sort.size_flatK, hsz] at ht
      refine ⟨?_, blk_free hg _⟩
      rw [blk_cell hg, hcl t (by rw [flatW4_length]; omega)]
      exact flatKW_get M.toArray t (by rw [hsz]; exact ht)
    have eg : ∀ args w, (callFunc 30 args).run Try.prog w = .ok (.enter 30 args) w := enters_of Try.func30 (by kernel_rfl) rfl
    have hcon := AnyQ.slices_SortFunc sortLaidW 4 Try.isAgg40 Try.sizeOf40 fwV (fun _ => rfl) (fun x v hv => by simp [fwV] at hv; rcases hv with rfl | rfl | rfl | rfl <;> rfl) cmpW swoW 30 #[] g o c M.toArray w eg
      (fun m os dk hd x y => by
        refine (ordW_any x y _ _ rfl).mono ?_
        rintro e w' ⟨he, q, os', hw⟩
        exact ⟨he, q, os', hw⟩) hH hgl (by omega)
    rw [hsz] at hcon
    refine hcon.mono ?_
    rintro e w' ⟨rfl, d', q, os, hp, hs, hw⟩
    obtain ⟨hps, _, hpp⟩ := hp
    rw [hsz] at hps
    have hpp2 : d'.toList.Perm M := by
      have e1 : d'.extract 0 n = d' := by rw [← hps]; simp
      have e2 : M.toArray.extract 0 n = M.toArray := by rw [← hsz]; simp
      rw [e1, e2] at hpp
      simpa using hpp
    have hdl : d'.toList.length = n := by simpa using hps
    refine ⟨rfl, d'.toList, hpp2, fun i j h1 h2 hbf => ?_, ?_, ?_⟩
    · have := hs i j (Nat.zero_le _) h1 h2
      rw [getElem!_pos d' i (by omega), getElem!_pos d' j (by omega)] at this
      have h3 := ltW_false.1 this
      refine h3 ?_
      simpa [List.getD, (show i < d'.size by omega), (show j < d'.size by omega)] using hbf
    · obtain ⟨p1, p2⟩ := putRowW_blk (o := o) (show (Sort.ahead w q).heap[g]? = some (.cells C 40 (0, 0)) from hg) (Sort.flatK fwV 4 d')
      have hblk : w'.heap[g]? = some (.cells (Sort.putCells (fun v => v) o (Sort.flatK fwV 4 d') C) 40 (0, 0)) := by
        rw [hw]
        show (Sort.grow (Sort.putRow (fun v => v) (Sort.ahead w q) g o (Sort.flatK fwV 4 d')) os).heap[g]? = _
        rw [Sort.heap_grow_old _ os (lt_of_block p1)]
        exact p1
      refine .inr ⟨g, o, c, rfl, _, hblk, by rw [p2]; exact hC, by rw [flatW4_length, hdl], hnc, hcm, fun t ht => ?_⟩
      rw [flatW4_length, hdl] at ht
      rw [flatKW_get d' t (by omega)]
      have hCt : o + t < C.size := by omega
      have hin : o ≤ o + t ∧ o + t < o + (Sort.flatK fwV 4 d').size := ⟨by omega, by rw [Sort.size_flatK, hps]; omega⟩
      simp only [Sort.putCells, Array.getElem?_mapIdx, Array.getElem?_eq_getElem hCt, Option.map_some, if_pos hin]
      rw [show o + t - o = t by omega]
    · have e0 : (Sort.ahead w q).heap.size = w.heap.size := rfl
      have e1 : (Sort.putRow (fun v => v) (Sort.ahead w q) g o (Sort.flatK fwV 4 d')).heap.size = w.heap.size := by simp [Sort.putRow, Sort.mapBlock, e0]
      rw [hw]
      refine ⟨rfl, rfl, rfl, ?_, fun k hk hn => ?_⟩
      · show w.heap.size ≤ (Sort.grow (Sort.putRow (fun v => v) (Sort.ahead w q) g o (Sort.flatK fwV 4 d')) os).heap.size
        rw [Sort.size_grow, e1]
        exact Nat.le_add_right _ _
      · show (Sort.grow (Sort.putRow (fun v => v) (Sort.ahead w q) g o (Sort.flatK fwV 4 d')) os).heap[k]? = _
        rw [Sort.heap_grow_old _ os (by rw [e1]; exact hk)]
        have hkg : g ≠ k := fun e => hn (by rw [e]; rfl)
        simp only [Sort.putRow, Sort.mapBlock, Array.getElem?_modify, if_neg hkg]
        rfl
end Go.Proofs.Ytknmpfdmjfbpdaa
