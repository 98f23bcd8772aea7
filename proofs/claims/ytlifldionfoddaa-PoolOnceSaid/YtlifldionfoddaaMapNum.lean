/-
  Maps from ports to numbers, as the laws of pool make them: how the run looks up, puts in, takes out, counts, goes through. No function of the program.
-/
import Derived.Test.YtlifldionfoddaaSl
import Derived.Test.YtlifldionfoddaaPool
import Derived.MapKept
import Derived.WideMake
import Derived.Maps.RangeRun
namespace Go.Proofs.Ytlifldionfoddaa
set_option maxRecDepth 10000
open Go.RowKit
set_option linter.unusedSimpArgs false
set_option linter.unusedVariables false

def setN (w : World) (b : Nat) (o : Obj) : World := { w with heap := w.heap.setIfInBounds b o }
theorem setN_at {w : World} {b : Nat} {o : Obj} (o' : Obj) (hb : w.heap[b]? = some o) : (setN w b o').heap[b]? = some o' := by
  have := lt_of_block hb
  simp [setN, this]
theorem setN_but (w : World) (b : Nat) (o : Obj) : But (fun g => g = b) w (setN w b o) :=
  ⟨rfl, rfl, rfl, by simp [setN], fun k _ hn => by simp only [setN]; rw [Array.getElem?_setIfInBounds_ne (fun e => hn e.symm)]⟩
/-- Block b is a map with the entries es: their keys are ports, those of K; R tells what stands at each. -/
structure MapN (w : World) (b : Nat) (K : Int → Prop) (R : Int → Value) (es : Array MapEntry) (clock : Nat) : Prop where
  at_ : w.heap[b]? = some (.map es clock)
  st : MapKept.Stamped es clock
  ent : ∀ x ∈ es.toList, ∃ e, K e ∧ x.key = .int .u16 e ∧ x.val = R e
  key : ∀ e, K e → ∃ x ∈ es.toList, x.key = .int .u16 e
def MapP (w : World) (b : Nat) (K : Int → Prop) (R : Int → Value) : Prop := ∃ es clock, MapN w b K R es clock
theorem MapP.lt {w : World} {b : Nat} {K : Int → Prop} {R : Int → Value} (h : MapP w b K R) : b < w.heap.size := by
  obtain ⟨es, clock, h⟩ := h
  exact lt_of_block h.at_
theorem MapN.but {S : Nat → Prop} {w w' : World} {b : Nat} {K : Int → Prop} {R : Int → Value} {es : Array MapEntry} {clock : Nat} (h : MapN w b K R es clock) (hb : But S w w') (hn : ¬ S b) : MapN w' b K R es clock := ⟨hb.blk h.at_ hn, h.st, h.ent, h.key⟩
theorem MapP.but {S : Nat → Prop} {w w' : World} {b : Nat} {K : Int → Prop} {R : Int → Value} (h : MapP w b K R) (hb : But S w w') (hn : ¬ S b) : MapP w' b K R := by
  obtain ⟨es, clock, h⟩ := h
  exact ⟨es, clock, h.but hb hn⟩
theorem MapP.congr {w : World} {b : Nat} {K K' : Int → Prop} {R R' : Int → Value} (h : MapP w b K R) (hK : ∀ e, K e ↔ K' e) (hR : ∀ e, K e → R e = R' e) : MapP w b K' R' := by
  obtain ⟨es, clock, hg, hs, h1, h2⟩ := h
  exact ⟨es, clock, hg, hs, fun x hx => by obtain ⟨e, he, hk, hv⟩ := h1 x hx; exact ⟨e, (hK e).1 he, hk, hv.trans (hR e he)⟩, fun e he => h2 e ((hK e).2 he)⟩
theorem MapP.made (w : World) (R : Int → Value) (g : Nat) (hg : w.heap.size = g) : MapP (w.alloc (.map #[] 0)) g (fun _ => False) R := by
  subst hg
  exact ⟨#[], 0, heap_alloc_new w _, MapKept.stamped_empty 0, fun x hx => by simp at hx, fun e he => he.elim⟩
section
variable {w : World} {b : Nat} {K : Int → Prop} {R : Int → Value} {es : Array MapEntry} {clock : Nat} {e : Int}
theorem MapN.find_in (h : MapN w b K R es clock) (he : K e) : ∃ j x, Instr.findNow (.int .u16) (.int .u16 e) es.toList 0 = some (some (j, R e)) ∧ es.toList[j]? = some x ∧ x.key = .int .u16 e := by
  have hk : ∀ x ∈ es.toList, MapKept.IsKey (.int .u16) x.key := fun x hx => by obtain ⟨e', _, hk, _⟩ := h.ent x hx; rw [hk]; simp [MapKept.IsKey]
  rcases MapKept.findNow_spec (d := .int .u16) (k := .int .u16 e) (by simp [MapKept.IsKey]) es.toList 0 hk with ⟨_, hf⟩ | ⟨j, x, hf, hj, hx⟩
  · obtain ⟨x, hx, hxe⟩ := h.key e he
    exact absurd hxe (hf x hx)
  · obtain ⟨e', _, hk', hv⟩ := h.ent x (List.mem_of_getElem? hj)
    rw [hx] at hk'
    injection hk' with _ hee
    subst hee
    exact ⟨j, x, by rw [hf, hv, Nat.zero_add], hj, hx⟩
theorem MapN.find_not (h : MapN w b K R es clock) (he : ¬ K e) : Instr.findNow (.int .u16) (.int .u16 e) es.toList 0 = some none ∧ ∀ x ∈ es.toList, x.key ≠ .int .u16 e := by
  have hk : ∀ x ∈ es.toList, MapKept.IsKey (.int .u16) x.key := fun x hx => by obtain ⟨e', _, hk, _⟩ := h.ent x hx; rw [hk]; simp [MapKept.IsKey]
  rcases MapKept.findNow_spec (d := .int .u16) (k := .int .u16 e) (by simp [MapKept.IsKey]) es.toList 0 hk with ⟨hf, hn⟩ | ⟨j, x, _, hj, hx⟩
  · exact ⟨hf, hn⟩
  · obtain ⟨e', hK, hk', _⟩ := h.ent x (List.mem_of_getElem? hj)
    rw [hx] at hk'
    injection hk' with _ hee
    subst hee
    exact absurd hK he
end
theorem check_u16 (k : Int) (w : World) (e : Bool) : (Instr.checkKey e 10000 22 (.int .u16 k)).run Try.prog w = .ok () w :=
  MapKept.run_checkKey (k := .int .u16 k) Try.underlying22 (by simp [MapKept.IsKey]) e 9999
theorem info_iN : (Try.prog.info? 3).map (·.zero) = some (some (.int .i64 0)) := by kernel_rfl
theorem zero_iN (w : World) : (zeroValue 3).run Try.prog w = .ok (.int .i64 0) w := by
  have h := info_iN
  cases hi : Try.prog.info? 3 with
  | none => rw [hi] at h; simp at h
  | some i =>
    rw [hi] at h
    simp at h
    simp [zeroValue, typeInfo, hi, h, go_sem]
section
variable {w : World} {b : Nat} {K : Int → Prop} {R : Int → Value} {e : Int}
theorem MapP.look_i (h : MapP w b K R) (he : K e) : (Instr.lookup 33 (.map (some b)) (.int .u16 e) false).run Try.prog w = .ok (R e) w := by
  obtain ⟨es, clock, h⟩ := h
  obtain ⟨j, x, hf, _, _⟩ := h.find_in he
  simp [Instr.lookup, run_underlying Try.underlying33, MapKept.run_getObj_map h.at_, check_u16 e w, MapKept.run_findKey Try.underlying22 hf, Result.andThen]
theorem MapP.look_no_i (h : MapP w b K R) (he : ¬ K e) : (Instr.lookup 33 (.map (some b)) (.int .u16 e) false).run Try.prog w = .ok (.int .i64 0) w := by
  obtain ⟨es, clock, h⟩ := h
  obtain ⟨hf, _⟩ := h.find_not he
  simp [Instr.lookup, run_underlying Try.underlying33, MapKept.run_getObj_map h.at_, check_u16 e w, MapKept.run_findKey Try.underlying22 hf, zero_iN, Result.andThen]
theorem MapP.put_i (h : MapP w b K R) (e : Int) (v : Value) : ∃ w', (Instr.mapUpdate 33 (.map (some b)) (.int .u16 e) v).run Try.prog w = .ok () w' ∧ MapP w' b (fun a => a = e ∨ K a) (fun a => if a = e then v else R a) ∧ But (fun g => g = b) w w' := by
  obtain ⟨es, clock, h⟩ := h
  by_cases he : K e
  · obtain ⟨j, x0, hf, hj, hx0⟩ := h.find_in he
    have hj' : es[j]? = some x0 := by rw [← hj]; simp
    have hs := h.st
    have hkeys : (es.modify j fun q => { q with key := .int .u16 e, val := v }).toList.map (·.key) = es.toList.map (·.key) := MapKept.modify_keys j _ (fun q hq => by rw [hj'] at hq; injection hq with hq; subst hq; exact hx0.symm)
    refine ⟨setN w b (.map (es.modify j fun q => { q with key := .int .u16 e, val := v }) clock), ?_, ⟨_, _, setN_at _ h.at_, MapKept.stamped_modify hs j _ (fun _ _ => rfl) (fun q _ hq => by rw [hj'] at hq; injection hq with hq; subst hq; exact hx0.symm), fun x hx => ?_, fun a ha => ?_⟩, setN_but _ _ _⟩
    · simp [setN, Instr.mapUpdate, run_underlying Try.underlying33, MapKept.run_getObj_map h.at_, check_u16 e w, MapKept.run_findKey Try.underlying22 hf, MapKept.run_setObj_map _ h.at_, hj', hx0, Instr.keyThatStays, Instr.sameBits, Result.andThen]
    · obtain ⟨i, hi⟩ := List.getElem?_of_mem hx
      rw [Array.getElem?_toList, Array.getElem?_modify] at hi
      by_cases hij : j = i
      · subst hij
        rw [if_pos rfl, hj'] at hi
        injection hi with hi
        subst hi
        exact ⟨e, .inl rfl, rfl, by simp⟩
      · rw [if_neg hij] at hi
        have hm : x ∈ es.toList := by rw [← Array.getElem?_toList] at hi; exact List.mem_of_getElem? hi
        obtain ⟨a, ha, hk, hv⟩ := h.ent x hm
        refine ⟨a, .inr ha, hk, ?_⟩
        try simp only
        rw [if_neg]
        · exact hv
        · rintro rfl
          have hnd := hs.2.2
          rw [← Array.getElem?_toList] at hi
          have e1 : (es.toList.map (·.key))[j]? = some (.int .u16 a) := by rw [List.getElem?_map, hj]; simp [hx0]
          have e2 : (es.toList.map (·.key))[i]? = some (.int .u16 a) := by rw [List.getElem?_map, hi]; simp [hk]
          have hjl := (List.getElem?_eq_some_iff.1 e1).1
          exact hij ((List.getElem?_inj hjl hnd).1 (e1.trans e2.symm))
    · have ha' : K a := by rcases ha with rfl | ha; exact he; exact ha
      obtain ⟨x, hx, hk⟩ := h.key a ha'
      have : (Value.int .u16 a) ∈ (es.modify j fun q => { q with key := .int .u16 e, val := v }).toList.map (·.key) := by rw [hkeys]; exact List.mem_map.2 ⟨x, hx, hk⟩
      obtain ⟨y, hy, hyk⟩ := List.mem_map.1 this
      exact ⟨y, hy, hyk⟩
  · obtain ⟨hf, hno⟩ := h.find_not he
    refine ⟨setN w b (.map (es.push ⟨.int .u16 e, v, clock⟩) (clock + 1)), ?_, ⟨_, _, setN_at _ h.at_, MapKept.stamped_push h.st hno, fun x hx => ?_, fun a ha => ?_⟩, setN_but _ _ _⟩
    · simp [setN, Instr.mapUpdate, run_underlying Try.underlying33, MapKept.run_getObj_map h.at_, check_u16 e w, MapKept.run_findKey Try.underlying22 hf, MapKept.run_setObj_map _ h.at_, Result.andThen]
    · simp only [Array.toList_push, List.mem_append, List.mem_singleton] at hx
      rcases hx with hx | rfl
      · obtain ⟨a, ha, hk, hv⟩ := h.ent x hx
        exact ⟨a, .inr ha, hk, by rw [if_neg (fun q : a = e => he (q ▸ ha))]; exact hv⟩
      · exact ⟨e, .inl rfl, rfl, by simp⟩
    · rcases ha with rfl | ha
      · exact ⟨⟨.int .u16 a, v, clock⟩, by simp, rfl⟩
      · obtain ⟨x, hx, hk⟩ := h.key a ha
        exact ⟨x, by simp only [Array.toList_push, List.mem_append]; exact .inl hx, hk⟩
theorem MapP.del_i (h : MapP w b K R) (he : K e) (ty : TypeId) : ∃ w', (Builtin.delete_ #[33, 22] ty #[.map (some b), .int .u16 e]).run Try.prog w = .ok (.tuple #[]) w' ∧ MapP w' b (fun a => a ≠ e ∧ K a) R ∧ But (fun g => g = b) w w' := by
  obtain ⟨es, clock, h⟩ := h
  obtain ⟨j, x0, hf, hj, hx0⟩ := h.find_in he
  have hs := h.st
  have hjl : j < es.size := by have := (List.getElem?_eq_some_iff.1 hj).1; simpa using this
  have hE : (es.eraseIdxIfInBounds j).toList = es.toList.eraseIdx j := by simp [Array.eraseIdxIfInBounds, hjl]
  refine ⟨setN w b (.map (es.eraseIdxIfInBounds j) clock), ?_, ⟨_, _, setN_at _ h.at_, MapKept.stamped_erase hs j, fun x hx => ?_, fun a ha => ?_⟩, setN_but _ _ _⟩
  · simp [setN, Builtin.delete_, run_underlying Try.underlying33, MapKept.run_getObj_map h.at_, check_u16 e w, MapKept.run_findKey Try.underlying22 hf, MapKept.run_setObj_map _ h.at_, Result.andThen]
  · rw [hE] at hx
    obtain ⟨i, hij, hi⟩ := List.mem_eraseIdx_iff_getElem?.1 hx
    obtain ⟨a, ha, hk, hv⟩ := h.ent x (List.mem_of_getElem? hi)
    refine ⟨a, ⟨?_, ha⟩, hk, hv⟩
    rintro rfl
    have e1 : (es.toList.map (·.key))[j]? = some (.int .u16 a) := by rw [List.getElem?_map, hj]; simp [hx0]
    have e2 : (es.toList.map (·.key))[i]? = some (.int .u16 a) := by rw [List.getElem?_map, hi]; simp [hk]
    have hjl' := (List.getElem?_eq_some_iff.1 e1).1
    exact hij ((List.getElem?_inj hjl' hs.2.2).1 (e1.trans e2.symm)).symm
  · obtain ⟨hne, ha⟩ := ha
    obtain ⟨x, hx, hk⟩ := h.key a ha
    obtain ⟨i, hi⟩ := List.getElem?_of_mem hx
    refine ⟨x, ?_, hk⟩
    rw [hE]
    refine List.mem_eraseIdx_iff_getElem?.2 ⟨i, fun q => hne ?_, hi⟩
    subst q
    rw [hj] at hi
    injection hi with hi
    subst hi
    rw [hx0] at hk
    injection hk with _ hk
    exact hk.symm
theorem MapN.len_i {es : Array MapEntry} {clock : Nat} (h : MapN w b K R es clock) (ty : TypeId) : (Builtin.len_ #[33] ty #[.map (some b)]).run Try.prog w = .ok (.int .i64 (es.size : Nat)) w := by
  simp [Builtin.len_, run_underlying Try.underlying33, MapKept.run_getObj_map h.at_, Result.andThen, goInt]
end
theorem info_uN : (Try.prog.info? 23).map (·.zero) = some (some (.int .u64 0)) := by kernel_rfl
theorem zero_uN (w : World) : (zeroValue 23).run Try.prog w = .ok (.int .u64 0) w := by
  have h := info_uN
  cases hi : Try.prog.info? 23 with
  | none => rw [hi] at h; simp at h
  | some i =>
    rw [hi] at h
    simp at h
    simp [zeroValue, typeInfo, hi, h, go_sem]
section
variable {w : World} {b : Nat} {K : Int → Prop} {R : Int → Value} {e : Int}
theorem MapP.look_u (h : MapP w b K R) (he : K e) : (Instr.lookup 34 (.map (some b)) (.int .u16 e) false).run Try.prog w = .ok (R e) w := by
  obtain ⟨es, clock, h⟩ := h
  obtain ⟨j, x, hf, _, _⟩ := h.find_in he
  simp [Instr.lookup, run_underlying Try.underlying34, MapKept.run_getObj_map h.at_, check_u16 e w, MapKept.run_findKey Try.underlying22 hf, Result.andThen]
theorem MapP.look_no_u (h : MapP w b K R) (he : ¬ K e) : (Instr.lookup 34 (.map (some b)) (.int .u16 e) false).run Try.prog w = .ok (.int .u64 0) w := by
  obtain ⟨es, clock, h⟩ := h
  obtain ⟨hf, _⟩ := h.find_not he
  simp [Instr.lookup, run_underlying Try.underlying34, MapKept.run_getObj_map h.at_, check_u16 e w, MapKept.run_findKey Try.underlying22 hf, zero_uN, Result.andThen]
theorem MapP.put_u (h : MapP w b K R) (e : Int) (v : Value) : ∃ w', (Instr.mapUpdate 34 (.map (some b)) (.int .u16 e) v).run Try.prog w = .ok () w' ∧ MapP w' b (fun a => a = e ∨ K a) (fun a => if a = e then v else R a) ∧ But (fun g => g = b) w w' := by
  obtain ⟨es, clock, h⟩ := h
  by_cases he : K e
  · obtain ⟨j, x0, hf, hj, hx0⟩ := h.find_in he
    have hj' : es[j]? = some x0 := by rw [← hj]; simp
    have hs := h.st
    have hkeys : (es.modify j fun q => { q with key := .int .u16 e, val := v }).toList.map (·.key) = es.toList.map (·.key) := MapKept.modify_keys j _ (fun q hq => by rw [hj'] at hq; injection hq with hq; subst hq; exact hx0.symm)
    refine ⟨setN w b (.map (es.modify j fun q => { q with key := .int .u16 e, val := v }) clock), ?_, ⟨_, _, setN_at _ h.at_, MapKept.stamped_modify hs j _ (fun _ _ => rfl) (fun q _ hq => by rw [hj'] at hq; injection hq with hq; subst hq; exact hx0.symm), fun x hx => ?_, fun a ha => ?_⟩, setN_but _ _ _⟩
    · simp [setN, Instr.mapUpdate, run_underlying Try.underlying34, MapKept.run_getObj_map h.at_, check_u16 e w, MapKept.run_findKey Try.underlying22 hf, MapKept.run_setObj_map _ h.at_, hj', hx0, Instr.keyThatStays, Instr.sameBits, Result.andThen]
    · obtain ⟨i, hi⟩ := List.getElem?_of_mem hx
      rw [Array.getElem?_toList, Array.getElem?_modify] at hi
      by_cases hij : j = i
      · subst hij
        rw [if_pos rfl, hj'] at hi
        injection hi with hi
        subst hi
        exact ⟨e, .inl rfl, rfl, by simp⟩
      · rw [if_neg hij] at hi
        have hm : x ∈ es.toList := by rw [← Array.getElem?_toList] at hi; exact List.mem_of_getElem? hi
        obtain ⟨a, ha, hk, hv⟩ := h.ent x hm
        refine ⟨a, .inr ha, hk, ?_⟩
        try simp only
        rw [if_neg]
        · exact hv
        · rintro rfl
          have hnd := hs.2.2
          rw [← Array.getElem?_toList] at hi
          have e1 : (es.toList.map (·.key))[j]? = some (.int .u16 a) := by rw [List.getElem?_map, hj]; simp [hx0]
          have e2 : (es.toList.map (·.key))[i]? = some (.int .u16 a) := by rw [List.getElem?_map, hi]; simp [hk]
          have hjl := (List.getElem?_eq_some_iff.1 e1).1
          exact hij ((List.getElem?_inj hjl hnd).1 (e1.trans e2.symm))
    · have ha' : K a := by rcases ha with rfl | ha; exact he; exact ha
      obtain ⟨x, hx, hk⟩ := h.key a ha'
      have : (Value.int .u16 a) ∈ (es.modify j fun q => { q with key := .int .u16 e, val := v }).toList.map (·.key) := by rw [hkeys]; exact List.mem_map.2 ⟨x, hx, hk⟩
      obtain ⟨y, hy, hyk⟩ := List.mem_map.1 this
      exact ⟨y, hy, hyk⟩
  · obtain ⟨hf, hno⟩ := h.find_not he
    refine ⟨setN w b (.map (es.push ⟨.int .u16 e, v, clock⟩) (clock + 1)), ?_, ⟨_, _, setN_at _ h.at_, MapKept.stamped_push h.st hno, fun x hx => ?_, fun a ha => ?_⟩, setN_but _ _ _⟩
    · simp [setN, Instr.mapUpdate, run_underlying Try.underlying34, MapKept.run_getObj_map h.at_, check_u16 e w, MapKept.run_findKey Try.underlying22 hf, MapKept.run_setObj_map _ h.at_, Result.andThen]
    · simp only [Array.toList_push, List.mem_append, List.mem_singleton] at hx
      rcases hx with hx | rfl
      · obtain ⟨a, ha, hk, hv⟩ := h.ent x hx
        exact ⟨a, .inr ha, hk, by rw [if_neg (fun q : a = e => he (q ▸ ha))]; exact hv⟩
      · exact ⟨e, .inl rfl, rfl, by simp⟩
    · rcases ha with rfl | ha
      · exact ⟨⟨.int .u16 a, v, clock⟩, by simp, rfl⟩
      · obtain ⟨x, hx, hk⟩ := h.key a ha
        exact ⟨x, by simp only [Array.toList_push, List.mem_append]; exact .inl hx, hk⟩
theorem MapP.del_u (h : MapP w b K R) (he : K e) (ty : TypeId) : ∃ w', (Builtin.delete_ #[34, 22] ty #[.map (some b), .int .u16 e]).run Try.prog w = .ok (.tuple #[]) w' ∧ MapP w' b (fun a => a ≠ e ∧ K a) R ∧ But (fun g => g = b) w w' := by
  obtain ⟨es, clock, h⟩ := h
  obtain ⟨j, x0, hf, hj, hx0⟩ := h.find_in he
  have hs := h.st
  have hjl : j < es.size := by have := (List.getElem?_eq_some_iff.1 hj).1; simpa using this
  have hE : (es.eraseIdxIfInBounds j).toList = es.toList.eraseIdx j := by simp [Array.eraseIdxIfInBounds, hjl]
  refine ⟨setN w b (.map (es.eraseIdxIfInBounds j) clock), ?_, ⟨_, _, setN_at _ h.at_, MapKept.stamped_erase hs j, fun x hx => ?_, fun a ha => ?_⟩, setN_but _ _ _⟩
  · simp [setN, Builtin.delete_, run_underlying Try.underlying34, MapKept.run_getObj_map h.at_, check_u16 e w, MapKept.run_findKey Try.underlying22 hf, MapKept.run_setObj_map _ h.at_, Result.andThen]
  · rw [hE] at hx
    obtain ⟨i, hij, hi⟩ := List.mem_eraseIdx_iff_getElem?.1 hx
    obtain ⟨a, ha, hk, hv⟩ := h.ent x (List.mem_of_getElem? hi)
    refine ⟨a, ⟨?_, ha⟩, hk, hv⟩
    rintro rfl
    have e1 : (es.toList.map (·.key))[j]? = some (.int .u16 a) := by rw [List.getElem?_map, hj]; simp [hx0]
    have e2 : (es.toList.map (·.key))[i]? = some (.int .u16 a) := by rw [List.getElem?_map, hi]; simp [hk]
    have hjl' := (List.getElem?_eq_some_iff.1 e1).1
    exact hij ((List.getElem?_inj hjl' hs.2.2).1 (e1.trans e2.symm)).symm
  · obtain ⟨hne, ha⟩ := ha
    obtain ⟨x, hx, hk⟩ := h.key a ha
    obtain ⟨i, hi⟩ := List.getElem?_of_mem hx
    refine ⟨x, ?_, hk⟩
    rw [hE]
    refine List.mem_eraseIdx_iff_getElem?.2 ⟨i, fun q => hne ?_, hi⟩
    subst q
    rw [hj] at hi
    injection hi with hi
    subst hi
    rw [hx0] at hk
    injection hk with _ hk
    exact hk.symm
theorem MapN.len_u {es : Array MapEntry} {clock : Nat} (h : MapN w b K R es clock) (ty : TypeId) : (Builtin.len_ #[34] ty #[.map (some b)]).run Try.prog w = .ok (.int .i64 (es.size : Nat)) w := by
  simp [Builtin.len_, run_underlying Try.underlying34, MapKept.run_getObj_map h.at_, Result.andThen, goInt]
end
/-- A list without repeats that holds just those below n that are so: as many. -/
theorem nodup_cnt : ∀ (n : Nat) (l : List Nat) (p : Nat → Bool), l.Nodup → (∀ i, i ∈ l ↔ (i < n ∧ p i = true)) → l.length = cnt n p
  | 0, l, p, _, h => by
    cases l with
    | nil => rfl
    | cons a l => have := ((h a).1 (.head _)).1; omega
  | n + 1, l, p, hn, h => by
    rw [cnt_succ]
    by_cases hp : p n = true
    · have hm : n ∈ l := (h n).2 ⟨by omega, hp⟩
      have h1 := nodup_cnt n (l.erase n) p (hn.erase n) (fun i => by
        rw [hn.mem_erase_iff, h i]
        constructor
        · rintro ⟨h2, h3, h4⟩; exact ⟨by omega, h4⟩
        · rintro ⟨h2, h3⟩; exact ⟨by omega, by omega, h3⟩)
      rw [List.length_erase, if_pos hm] at h1
      have := List.length_pos_of_mem hm
      rw [if_pos hp]
      omega
    · rw [if_neg hp]
      refine nodup_cnt n l p hn (fun i => ?_)
      rw [h i]
      constructor
      · rintro ⟨h2, h3⟩
        refine ⟨?_, h3⟩
        by_cases e : i = n
        · subst e; exact absurd h3 hp
        · omega
      · rintro ⟨h2, h3⟩; exact ⟨by omega, h3⟩
/-- Entries whose keys are ports lo + i, each that is so: counted. -/
theorem entries_cnt {lo : Int} {n : Nat} {p : Nat → Bool} (l : List MapEntry) (hn : (l.map (·.key)).Nodup) (h1 : ∀ x ∈ l, ∃ i : Nat, x.key = .int .u16 (lo + (i : Int)) ∧ i < n ∧ p i = true) (h2 : ∀ i : Nat, i < n → p i = true → ∃ x ∈ l, x.key = .int .u16 (lo + (i : Int))) : l.length = cnt n p := by
  have hidx : ∀ x : MapEntry, ∀ i : Nat, x.key = .int .u16 (lo + (i : Int)) → (match x.key with | .int _ e => (e - lo).toNat | _ => 0) = i := by
    intro x i hk
    rw [hk]
    show (lo + (i : Int) - lo).toNat = i
    omega
  have := nodup_cnt n (l.map (fun x => match x.key with | .int _ e => (e - lo).toNat | _ => 0)) p ?_ ?_
  · simpa using this
  · rw [List.Nodup, List.pairwise_map] at hn ⊢
    refine hn.imp_of_mem (fun {a b} ha hb hne he => hne ?_)
    obtain ⟨i, hi, _⟩ := h1 a ha
    obtain ⟨j, hj, _⟩ := h1 b hb
    rw [hidx a i hi, hidx b j hj] at he
    rw [hi, hj, he]
  · intro i
    rw [List.mem_map]
    constructor
    · rintro ⟨x, hx, he⟩
      obtain ⟨j, hj, hjn, hp⟩ := h1 x hx
      rw [hidx x j hj] at he
      subst he
      exact ⟨hjn, hp⟩
    · rintro ⟨hi, hp⟩
      obtain ⟨x, hx, hk⟩ := h2 i hi hp
      exact ⟨x, hx, hidx x i hk⟩
end Go.Proofs.Ytlifldionfoddaa
