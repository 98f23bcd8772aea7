/-
  A map from 64 bit numbers to slices of ports, as package pool has it: how the run looks up, puts in, takes out, counts. No function of the program.
-/
import Derived.Test.YtlifldionfoddaaSl
import Derived.MapKept
import Derived.WideMake
namespace Go.Proofs.Ytlifldionfoddaa
set_option maxRecDepth 10000
open Go.RowKit
set_option linter.unusedSimpArgs false
set_option linter.unusedVariables false

def setM (w : World) (b : Nat) (o : Obj) : World := { w with heap := w.heap.setIfInBounds b o }
theorem setM_at {w : World} {b : Nat} {o : Obj} (o' : Obj) (hb : w.heap[b]? = some o) : (setM w b o').heap[b]? = some o' := by
  have := lt_of_block hb
  simp [setM, this]
theorem setM_but (w : World) (b : Nat) (o : Obj) : But (fun g => g = b) w (setM w b o) :=
  ⟨rfl, rfl, rfl, by simp [setM], fun k _ hn => by simp only [setM]; rw [Array.getElem?_setIfInBounds_ne (fun e => hn e.symm)]⟩
/-- Block b is a map whose keys are those of K, and R tells what stands at each. -/
def MapIs (w : World) (b : Nat) (K : Int → Prop) (R : Int → Value) : Prop :=
  ∃ es clock, w.heap[b]? = some (.map es clock) ∧ MapKept.Stamped es clock ∧ (∀ x ∈ es.toList, ∃ e, K e ∧ x.key = .int .u64 e ∧ x.val = R e) ∧ ∀ e, K e → ∃ x ∈ es.toList, x.key = .int .u64 e
theorem MapIs.lt {w : World} {b : Nat} {K : Int → Prop} {R : Int → Value} (h : MapIs w b K R) : b < w.heap.size := by
  obtain ⟨es, clock, hb, _⟩ := h
  exact lt_of_block hb
theorem MapIs.but {S : Nat → Prop} {w w' : World} {b : Nat} {K : Int → Prop} {R : Int → Value} (h : MapIs w b K R) (hb : But S w w') (hn : ¬ S b) : MapIs w' b K R := by
  obtain ⟨es, clock, hg, r⟩ := h
  exact ⟨es, clock, hb.blk hg hn, r⟩
theorem MapIs.congr {w : World} {b : Nat} {K K' : Int → Prop} {R R' : Int → Value} (h : MapIs w b K R) (hK : ∀ e, K e ↔ K' e) (hR : ∀ e, K e → R e = R' e) : MapIs w b K' R' := by
  obtain ⟨es, clock, hg, hs, h1, h2⟩ := h
  exact ⟨es, clock, hg, hs, fun x hx => by obtain ⟨e, he, hk, hv⟩ := h1 x hx; exact ⟨e, (hK e).1 he, hk, hv.trans (hR e he)⟩, fun e he => h2 e ((hK e).2 he)⟩
theorem MapIs.made (w : World) (R : Int → Value) (g : Nat) (hg : w.heap.size = g) : MapIs (w.alloc (.map #[] 0)) g (fun _ => False) R := by
  subst hg
  exact ⟨#[], 0, heap_alloc_new w _, MapKept.stamped_empty 0, fun x hx => by simp at hx, fun e he => he.elim⟩
theorem find_in {es : Array MapEntry} {clock : Nat} {K : Int → Prop} {R : Int → Value} (hs : MapKept.Stamped es clock) (h1 : ∀ x ∈ es.toList, ∃ e, K e ∧ x.key = .int .u64 e ∧ x.val = R e) (h2 : ∀ e, K e → ∃ x ∈ es.toList, x.key = .int .u64 e) {e : Int} (he : K e) :
    ∃ j x, Instr.findNow (.int .u64) (.int .u64 e) es.toList 0 = some (some (j, R e)) ∧ es.toList[j]? = some x ∧ x.key = .int .u64 e := by
  have hk : ∀ x ∈ es.toList, MapKept.IsKey (.int .u64) x.key := fun x hx => by obtain ⟨e', _, hk, _⟩ := h1 x hx; rw [hk]; simp [MapKept.IsKey]
  rcases MapKept.findNow_spec (d := .int .u64) (k := .int .u64 e) (by simp [MapKept.IsKey]) es.toList 0 hk with ⟨_, h⟩ | ⟨j, x, hf, hj, hx⟩
  · obtain ⟨x, hx, hxe⟩ := h2 e he
    exact absurd hxe (h x hx)
  · obtain ⟨e', _, hk', hv⟩ := h1 x (List.mem_of_getElem? hj)
    rw [hx] at hk'
    injection hk' with _ hee
    subst hee
    exact ⟨j, x, by rw [hf, hv, Nat.zero_add], hj, hx⟩
theorem find_not {es : Array MapEntry} {K : Int → Prop} {R : Int → Value} (h1 : ∀ x ∈ es.toList, ∃ e, K e ∧ x.key = .int .u64 e ∧ x.val = R e) {e : Int} (he : ¬ K e) :
    Instr.findNow (.int .u64) (.int .u64 e) es.toList 0 = some none ∧ ∀ x ∈ es.toList, x.key ≠ .int .u64 e := by
  have hk : ∀ x ∈ es.toList, MapKept.IsKey (.int .u64) x.key := fun x hx => by obtain ⟨e', _, hk, _⟩ := h1 x hx; rw [hk]; simp [MapKept.IsKey]
  rcases MapKept.findNow_spec (d := .int .u64) (k := .int .u64 e) (by simp [MapKept.IsKey]) es.toList 0 hk with ⟨hf, h⟩ | ⟨j, x, _, hj, hx⟩
  · exact ⟨hf, h⟩
  · obtain ⟨e', hK, hk', _⟩ := h1 x (List.mem_of_getElem? hj)
    rw [hx] at hk'
    injection hk' with _ hee
    subst hee
    exact absurd hK he
theorem check_u64 (k : Int) (w : World) (e : Bool) : (Instr.checkKey e 10000 23 (.int .u64 k)).run Try.prog w = .ok () w :=
  MapKept.run_checkKey (k := .int .u64 k) Try.underlying23 (by simp [MapKept.IsKey]) e 9999
theorem info_u16s : (Try.prog.info? 61).map (·.zero) = some (some (.slice none 0 0)) := by kernel_rfl
theorem zero_u16s (w : World) : (zeroValue 61).run Try.prog w = .ok (.slice none 0 0) w := by
  have h := info_u16s
  cases hi : Try.prog.info? 61 with
  | none => rw [hi] at h; simp at h
  | some i =>
    rw [hi] at h
    simp at h
    simp [zeroValue, typeInfo, hi, h, go_sem]
section
variable {w : World} {b : Nat} {K : Int → Prop} {R : Int → Value} {e : Int}
theorem MapIs.look (h : MapIs w b K R) (he : K e) : (Instr.lookup 49 (.map (some b)) (.int .u64 e) false).run Try.prog w = .ok (R e) w := by
  obtain ⟨es, clock, hb, hs, h1, h2⟩ := h
  obtain ⟨j, x, hf, _, _⟩ := find_in hs h1 h2 he
  simp [Instr.lookup, run_underlying Try.underlying49, MapKept.run_getObj_map hb, check_u64 e w, MapKept.run_findKey Try.underlying23 hf, Result.andThen]
theorem MapIs.look_ok (h : MapIs w b K R) (he : K e) : (Instr.lookup 49 (.map (some b)) (.int .u64 e) true).run Try.prog w = .ok (.tuple #[R e, .bool true]) w := by
  obtain ⟨es, clock, hb, hs, h1, h2⟩ := h
  obtain ⟨j, x, hf, _, _⟩ := find_in hs h1 h2 he
  simp [Instr.lookup, run_underlying Try.underlying49, MapKept.run_getObj_map hb, check_u64 e w, MapKept.run_findKey Try.underlying23 hf, Result.andThen]
theorem MapIs.look_no (h : MapIs w b K R) (he : ¬ K e) : (Instr.lookup 49 (.map (some b)) (.int .u64 e) false).run Try.prog w = .ok (.slice none 0 0) w := by
  obtain ⟨es, clock, hb, hs, h1, h2⟩ := h
  obtain ⟨hf, _⟩ := find_not h1 he
  simp [Instr.lookup, run_underlying Try.underlying49, MapKept.run_getObj_map hb, check_u64 e w, MapKept.run_findKey Try.underlying23 hf, zero_u16s, Result.andThen]
theorem MapIs.look_no_ok (h : MapIs w b K R) (he : ¬ K e) : (Instr.lookup 49 (.map (some b)) (.int .u64 e) true).run Try.prog w = .ok (.tuple #[.slice none 0 0, .bool false]) w := by
  obtain ⟨es, clock, hb, hs, h1, h2⟩ := h
  obtain ⟨hf, _⟩ := find_not h1 he
  simp [Instr.lookup, run_underlying Try.underlying49, MapKept.run_getObj_map hb, check_u64 e w, MapKept.run_findKey Try.underlying23 hf, zero_u16s, Result.andThen]
theorem MapIs.put_new (h : MapIs w b K R) (he : ¬ K e) (v : Value) : ∃ w', (Instr.mapUpdate 49 (.map (some b)) (.int .u64 e) v).run Try.prog w = .ok () w' ∧ MapIs w' b (fun a => a = e ∨ K a) (fun a => if a = e then v else R a) ∧ But (fun g => g = b) w w' := by
  obtain ⟨es, clock, hb, hs, h1, h2⟩ := h
  obtain ⟨hf, hno⟩ := find_not h1 he
  refine ⟨setM w b (.map (es.push ⟨.int .u64 e, v, clock⟩) (clock + 1)), ?_, ⟨_, _, setM_at _ hb, MapKept.stamped_push hs hno, fun x hx => ?_, fun a ha => ?_⟩, setM_but _ _ _⟩
  · simp [setM, Instr.mapUpdate, run_underlying Try.underlying49, MapKept.run_getObj_map hb, check_u64 e w, MapKept.run_findKey Try.underlying23 hf, MapKept.run_setObj_map _ hb, Result.andThen]
  · simp only [Array.toList_push, List.mem_append, List.mem_singleton] at hx
    rcases hx with hx | rfl
    · obtain ⟨a, ha, hk, hv⟩ := h1 x hx
      exact ⟨a, .inr ha, hk, by simp only; rw [if_neg (fun q : a = e => he (q ▸ ha))]; exact hv⟩
    · exact ⟨e, .inl rfl, rfl, by simp⟩
  · rcases ha with rfl | ha
    · exact ⟨⟨.int .u64 a, v, clock⟩, by simp, rfl⟩
    · obtain ⟨x, hx, hk⟩ := h2 a ha
      exact ⟨x, by simp only [Array.toList_push, List.mem_append]; exact .inl hx, hk⟩
theorem MapIs.put_old (h : MapIs w b K R) (he : K e) (v : Value) : ∃ w', (Instr.mapUpdate 49 (.map (some b)) (.int .u64 e) v).run Try.prog w = .ok () w' ∧ MapIs w' b K (fun a => if a = e then v else R a) ∧ But (fun g => g = b) w w' := by
  obtain ⟨es, clock, hb, hs, h1, h2⟩ := h
  obtain ⟨j, x0, hf, hj, hx0⟩ := find_in hs h1 h2 he
  have hj' : es[j]? = some x0 := by rw [← hj]; simp
  have hkeys : (es.modify j fun q => { q with key := .int .u64 e, val := v }).toList.map (·.key) = es.toList.map (·.key) := MapKept.modify_keys j _ (fun q hq => by rw [hj'] at hq; injection hq with hq; subst hq; exact hx0.symm)
  refine ⟨setM w b (.map (es.modify j fun q => { q with key := .int .u64 e, val := v }) clock), ?_, ⟨_, _, setM_at _ hb, MapKept.stamped_modify hs j _ (fun _ _ => rfl) (fun q _ hq => by rw [hj'] at hq; injection hq with hq; subst hq; exact hx0.symm), fun x hx => ?_, fun a ha => ?_⟩, setM_but _ _ _⟩
  · simp [setM, Instr.mapUpdate, run_underlying Try.underlying49, MapKept.run_getObj_map hb, check_u64 e w, MapKept.run_findKey Try.underlying23 hf, MapKept.run_setObj_map _ hb, hj', hx0, Instr.keyThatStays, Instr.sameBits, Result.andThen]
  · obtain ⟨i, hi⟩ := List.getElem?_of_mem hx
    rw [Array.getElem?_toList, Array.getElem?_modify] at hi
    by_cases hij : j = i
    · subst hij
      rw [if_pos rfl, hj'] at hi
      injection hi with hi
      subst hi
      exact ⟨e, he, rfl, by simp⟩
    · rw [if_neg hij] at hi
      have hm : x ∈ es.toList := by rw [← Array.getElem?_toList] at hi; exact List.mem_of_getElem? hi
      obtain ⟨a, ha, hk, hv⟩ := h1 x hm
      refine ⟨a, ha, hk, ?_⟩
      simp only
      rw [if_neg]
      · exact hv
      · rintro rfl
        have hnd := hs.2.2
        rw [← Array.getElem?_toList] at hi
        have e1 : (es.toList.map (·.key))[j]? = some (.int .u64 a) := by rw [List.getElem?_map, hj]; simp [hx0]
        have e2 : (es.toList.map (·.key))[i]? = some (.int .u64 a) := by rw [List.getElem?_map, hi]; simp [hk]
        have hjl := (List.getElem?_eq_some_iff.1 e1).1
        exact hij ((List.getElem?_inj hjl hnd).1 (e1.trans e2.symm))
  · obtain ⟨x, hx, hk⟩ := h2 a ha
    have : (Value.int .u64 a) ∈ (es.modify j fun q => { q with key := .int .u64 e, val := v }).toList.map (·.key) := by rw [hkeys]; exact List.mem_map.2 ⟨x, hx, hk⟩
    obtain ⟨y, hy, hyk⟩ := List.mem_map.1 this
    exact ⟨y, hy, hyk⟩
theorem MapIs.del (h : MapIs w b K R) (he : K e) (ty : TypeId) : ∃ w', (Builtin.delete_ #[49, 23] ty #[.map (some b), .int .u64 e]).run Try.prog w = .ok (.tuple #[]) w' ∧ MapIs w' b (fun a => a ≠ e ∧ K a) R ∧ But (fun g => g = b) w w' := by
  obtain ⟨es, clock, hb, hs, h1, h2⟩ := h
  obtain ⟨j, x0, hf, hj, hx0⟩ := find_in hs h1 h2 he
  have hjl : j < es.size := by have := (List.getElem?_eq_some_iff.1 hj).1; simpa using this
  have hE : (es.eraseIdxIfInBounds j).toList = es.toList.eraseIdx j := by simp [Array.eraseIdxIfInBounds, hjl]
  refine ⟨setM w b (.map (es.eraseIdxIfInBounds j) clock), ?_, ⟨_, _, setM_at _ hb, MapKept.stamped_erase hs j, fun x hx => ?_, fun a ha => ?_⟩, setM_but _ _ _⟩
  · simp [setM, Builtin.delete_, run_underlying Try.underlying49, MapKept.run_getObj_map hb, check_u64 e w, MapKept.run_findKey Try.underlying23 hf, MapKept.run_setObj_map _ hb, Result.andThen]
  · rw [hE] at hx
    obtain ⟨i, hij, hi⟩ := List.mem_eraseIdx_iff_getElem?.1 hx
    obtain ⟨a, ha, hk, hv⟩ := h1 x (List.mem_of_getElem? hi)
    refine ⟨a, ⟨?_, ha⟩, hk, hv⟩
    rintro rfl
    have e1 : (es.toList.map (·.key))[j]? = some (.int .u64 a) := by rw [List.getElem?_map, hj]; simp [hx0]
    have e2 : (es.toList.map (·.key))[i]? = some (.int .u64 a) := by rw [List.getElem?_map, hi]; simp [hk]
    have hjl' := (List.getElem?_eq_some_iff.1 e1).1
    exact hij ((List.getElem?_inj hjl' hs.2.2).1 (e1.trans e2.symm)).symm
  · obtain ⟨hne, ha⟩ := ha
    obtain ⟨x, hx, hk⟩ := h2 a ha
    obtain ⟨i, hi⟩ := List.getElem?_of_mem hx
    refine ⟨x, ?_, hk⟩
    rw [hE]
    refine List.mem_eraseIdx_iff_getElem?.2 ⟨i, fun q => hne ?_, hi⟩
    subst q
    rw [hj] at hi
    injection hi with hi
    subst hi
    rw [hx0] at hk
    injection hk with _ hk
    exact hk.symm
theorem MapIs.len (h : MapIs w b K R) : ∃ n : Nat, ∀ ty, (Builtin.len_ #[49] ty #[.map (some b)]).run Try.prog w = .ok (.int .i64 n) w := by
  obtain ⟨es, clock, hb, _⟩ := h
  exact ⟨es.size, fun ty => by simp [Builtin.len_, run_underlying Try.underlying49, MapKept.run_getObj_map hb, Result.andThen, goInt]⟩
end
theorem run_makeMap_hint (w : World) (n : Int) : (Instr.makeMap 49 (some (.int .i64 n))).run Try.prog w = .ok (.map (some w.heap.size)) (w.alloc (.map #[] 0)) := by
  simp [Instr.makeMap, run_underlying Try.underlying49, asInt, asIntOf, Result.andThen]
end Go.Proofs.Ytlifldionfoddaa
