/-
  Maps from uint64 to numbers: how the run looks up, puts in, takes out, counts. No function of the program.
-/
import Derived.Test.YtknmpfdmjfbpdaaSl
import Derived.MapKept
import Derived.WideMake
import Derived.Maps.RangeRun
namespace Go.Proofs.Ytknmpfdmjfbpdaa
set_option maxRecDepth 10000
open Go.RowKit
set_option linter.unusedSimpArgs false
set_option linter.unusedVariables false

def setU (w : World) (b : Nat) (o : Obj) : World := { w with heap := w.heap.setIfInBounds b o }
theorem setU_at {w : World} {b : Nat} {o : Obj} (o' : Obj) (hb : w.heap[b]? = some o) : (setU w b o').heap[b]? = some o' := by
  have := lt_of_block hb
  simp [setU, this]
theorem setU_but (w : World) (b : Nat) (o : Obj) : But (fun g => g = b) w (setU w b o) :=
  ⟨rfl, rfl, rfl, by simp [setU], fun k _ hn => by simp only [setU]; rw [Array.getElem?_setIfInBounds_ne (fun e => hn e.symm)]⟩
/-- Block b is a map with the entries es: their keys are those of K; R tells what stands at each. -/
structure MUN (w : World) (b : Nat) (K : Int → Prop) (R : Int → Value) (es : Array MapEntry) (clock : Nat) : Prop where
  at_ : w.heap[b]? = some (.map es clock)
  st : MapKept.Stamped es clock
  ent : ∀ x ∈ es.toList, ∃ e, K e ∧ x.key = .int .u64 e ∧ x.val = R e
  key : ∀ e, K e → ∃ x ∈ es.toList, x.key = .int .u64 e
def MUP (w : World) (b : Nat) (K : Int → Prop) (R : Int → Value) : Prop := ∃ es clock, MUN w b K R es clock
theorem MUP.lt {w : World} {b : Nat} {K : Int → Prop} {R : Int → Value} (h : MUP w b K R) : b < w.heap.size := by
  obtain ⟨es, clock, h⟩ := h
  exact lt_of_block h.at_
theorem MUN.but {S : Nat → Prop} {w w' : World} {b : Nat} {K : Int → Prop} {R : Int → Value} {es : Array MapEntry} {clock : Nat} (h : MUN w b K R es clock) (hb : But S w w') (hn : ¬ S b) : MUN w' b K R es clock := ⟨hb.blk h.at_ hn, h.st, h.ent, h.key⟩
theorem MUP.but {S : Nat → Prop} {w w' : World} {b : Nat} {K : Int → Prop} {R : Int → Value} (h : MUP w b K R) (hb : But S w w') (hn : ¬ S b) : MUP w' b K R := by
  obtain ⟨es, clock, h⟩ := h
  exact ⟨es, clock, h.but hb hn⟩
theorem MUP.congr {w : World} {b : Nat} {K K' : Int → Prop} {R R' : Int → Value} (h : MUP w b K R) (hK : ∀ e, K e ↔ K' e) (hR : ∀ e, K e → R e = R' e) : MUP w b K' R' := by
  obtain ⟨es, clock, hg, hs, h1, h2⟩ := h
  exact ⟨es, clock, hg, hs, fun x hx => by obtain ⟨e, he, hk, hv⟩ := h1 x hx; exact ⟨e, (hK e).1 he, hk, hv.trans (hR e he)⟩, fun e he => h2 e ((hK e).2 he)⟩
theorem MUP.made (w : World) (R : Int → Value) (g : Nat) (hg : w.heap.size = g) : MUP (w.alloc (.map #[] 0)) g (fun _ => False) R := by
  subst hg
  exact ⟨#[], 0, heap_alloc_new w _, MapKept.stamped_empty 0, fun x hx => by simp at hx, fun e he => he.elim⟩
section
variable {w : World} {b : Nat} {K : Int → Prop} {R : Int → Value} {es : Array MapEntry} {clock : Nat} {e : Int}
theorem MUN.find_in (h : MUN w b K R es clock) (he : K e) : ∃ j x, Instr.findNow (.int .u64) (.int .u64 e) es.toList 0 = some (some (j, R e)) ∧ es.toList[j]? = some x ∧ x.key = .int .u64 e := by
  have hk : ∀ x ∈ es.toList, MapKept.IsKey (.int .u64) x.key := fun x hx => by obtain ⟨e', _, hk, _⟩ := h.ent x hx; rw [hk]; simp [MapKept.IsKey]
  rcases MapKept.findNow_spec (d := .int .u64) (k := .int .u64 e) (by simp [MapKept.IsKey]) es.toList 0 hk with ⟨_, hf⟩ | ⟨j, x, hf, hj, hx⟩
  · obtain ⟨x, hx, hxe⟩ := h.key e he
    exact absurd hxe (hf x hx)
  · obtain ⟨e', _, hk', hv⟩ := h.ent x (List.mem_of_getElem? hj)
    rw [hx] at hk'
    injection hk' with _ hee
    subst hee
    exact ⟨j, x, by rw [hf, hv, Nat.zero_add], hj, hx⟩
theorem MUN.find_not (h : MUN w b K R es clock) (he : ¬ K e) : Instr.findNow (.int .u64) (.int .u64 e) es.toList 0 = some none ∧ ∀ x ∈ es.toList, x.key ≠ .int .u64 e := by
  have hk : ∀ x ∈ es.toList, MapKept.IsKey (.int .u64) x.key := fun x hx => by obtain ⟨e', _, hk, _⟩ := h.ent x hx; rw [hk]; simp [MapKept.IsKey]
  rcases MapKept.findNow_spec (d := .int .u64) (k := .int .u64 e) (by simp [MapKept.IsKey]) es.toList 0 hk with ⟨hf, hn⟩ | ⟨j, x, _, hj, hx⟩
  · exact ⟨hf, hn⟩
  · obtain ⟨e', hK, hk', _⟩ := h.ent x (List.mem_of_getElem? hj)
    rw [hx] at hk'
    injection hk' with _ hee
    subst hee
    exact absurd hK he
end
theorem MUN.size_list {w : World} {b : Nat} {K : Int → Prop} {R : Int → Value} {es : Array MapEntry} {clock : Nat} (h : MUN w b K R es clock) (l : List Int) (hl : l.Nodup) (hK : ∀ e, K e ↔ e ∈ l) : es.size = l.length := by
  have hnd : (es.toList.map (·.key)).Nodup := h.st.2.2
  have hn2 : (l.map (Value.int .u64)).Nodup := by
    rw [List.Nodup, List.pairwise_map]
    exact hl.imp (fun hne e => hne (by injection e))
  have hp : (es.toList.map (·.key)).Perm (l.map (Value.int .u64)) := by
    refine (List.perm_ext_iff_of_nodup hnd hn2).2 (fun v => ⟨fun hv => ?_, fun hv => ?_⟩)
    · obtain ⟨x, hx, rfl⟩ := List.mem_map.1 hv
      obtain ⟨e, he, hk, _⟩ := h.ent x hx
      exact List.mem_map.2 ⟨e, (hK e).1 he, hk.symm⟩
    · obtain ⟨e, he, rfl⟩ := List.mem_map.1 hv
      obtain ⟨x, hx, hk⟩ := h.key e ((hK e).2 he)
      exact List.mem_map.2 ⟨x, hx, hk⟩
  have := hp.length_eq
  simpa using this
theorem check_uU (k : Int) (w : World) (e : Bool) : (Instr.checkKey e 10000 24 (.int .u64 k)).run Try.prog w = .ok () w :=
  MapKept.run_checkKey (k := .int .u64 k) Try.underlying24 (by simp [MapKept.IsKey]) e 9999
theorem info_iU : (Try.prog.info? 3).map (·.zero) = some (some (.int .i64 0)) := by kernel_rfl
theorem zero_iU (w : World) : (zeroValue 3).run Try.prog w = .ok (.int .i64 0) w := by
  have h := info_iU
  cases hi : Try.prog.info? 3 with
  | none => rw [hi] at h; simp at h
  | some i =>
    rw [hi] at h
    simp at h
    simp [zeroValue, typeInfo, hi, h, go_sem]
section
variable {w : World} {b : Nat} {K : Int → Prop} {R : Int → Value} {e : Int}
end
theorem info_uU : (Try.prog.info? 24).map (·.zero) = some (some (.int .u64 0)) := by kernel_rfl
theorem zero_uU (w : World) : (zeroValue 24).run Try.prog w = .ok (.int .u64 0) w := by
  have h := info_uU
  cases hi : Try.prog.info? 24 with
  | none => rw [hi] at h; simp at h
  | some i =>
    rw [hi] at h
    simp at h
    simp [zeroValue, typeInfo, hi, h, go_sem]
section
variable {w : World} {b : Nat} {K : Int → Prop} {R : Int → Value} {e : Int}
end
end Go.Proofs.Ytknmpfdmjfbpdaa
