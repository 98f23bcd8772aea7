/-
  Maps from int to bytes: how the run looks up, puts in, takes out, counts. No function of the program.
-/
import Derived.Test.YtmmnicnebammhaaSl
import Derived.MapKept
import Derived.WideMake
import Derived.Maps.RangeRun
namespace Go.Proofs.Ytmmnicnebammhaa
set_option maxRecDepth 10000
open Go.RowKit
set_option linter.unusedSimpArgs false
set_option linter.unusedVariables false

def setB (w : World) (b : Nat) (o : Obj) : World := { w with heap := w.heap.setIfInBounds b o }
theorem setB_at {w : World} {b : Nat} {o : Obj} (o' : Obj) (hb : w.heap[b]? = some o) : (setB w b o').heap[b]? = some o' := by
  have := lt_of_block hb
  simp [setB, this]
theorem setB_but (w : World) (b : Nat) (o : Obj) : But (fun g => g = b) w (setB w b o) :=
  ⟨rfl, rfl, rfl, by simp [setB], fun k _ hn => by simp only [setB]; rw [Array.getElem?_setIfInBounds_ne (fun e => hn e.symm)]⟩
/-- Block b is a map with the entries es: their keys are those of K; R tells what stands at each. -/
structure MBN (w : World) (b : Nat) (K : Int → Prop) (R : Int → Value) (es : Array MapEntry) (clock : Nat) : Prop where
  at_ : w.heap[b]? = some (.map es clock)
  st : MapKept.Stamped es clock
  ent : ∀ x ∈ es.toList, ∃ e, K e ∧ x.key = .int .i64 e ∧ x.val = R e
  key : ∀ e, K e → ∃ x ∈ es.toList, x.key = .int .i64 e
def MBP (w : World) (b : Nat) (K : Int → Prop) (R : Int → Value) : Prop := ∃ es clock, MBN w b K R es clock
theorem MBP.lt {w : World} {b : Nat} {K : Int → Prop} {R : Int → Value} (h : MBP w b K R) : b < w.heap.size := by
  obtain ⟨es, clock, h⟩ := h
  exact lt_of_block h.at_
theorem MBN.but {S : Nat → Prop} {w w' : World} {b : Nat} {K : Int → Prop} {R : Int → Value} {es : Array MapEntry} {clock : Nat} (h : MBN w b K R es clock) (hb : But S w w') (hn : ¬ S b) : MBN w' b K R es clock := ⟨hb.blk h.at_ hn, h.st, h.ent, h.key⟩
theorem MBP.but {S : Nat → Prop} {w w' : World} {b : Nat} {K : Int → Prop} {R : Int → Value} (h : MBP w b K R) (hb : But S w w') (hn : ¬ S b) : MBP w' b K R := by
  obtain ⟨es, clock, h⟩ := h
  exact ⟨es, clock, h.but hb hn⟩
theorem MBP.congr {w : World} {b : Nat} {K K' : Int → Prop} {R R' : Int → Value} (h : MBP w b K R) (hK : ∀ e, K e ↔ K' e) (hR : ∀ e, K e → R e = R' e) : MBP w b K' R' := by
  obtain ⟨es, clock, hg, hs, h1, h2⟩ := h
  exact ⟨es, clock, hg, hs, fun x hx => by obtain ⟨e, he, hk, hv⟩ := h1 x hx; exact ⟨e, (hK e).1 he, hk, hv.trans (hR e he)⟩, fun e he => h2 e ((hK e).2 he)⟩
theorem MBP.made (w : World) (R : Int → Value) (g : Nat) (hg : w.heap.size = g) : MBP (w.alloc (.map #[] 0)) g (fun _ => False) R := by
  subst hg
  exact ⟨#[], 0, heap_alloc_new w _, MapKept.stamped_empty 0, fun x hx => by simp at hx, fun e he => he.elim⟩
section
variable {w : World} {b : Nat} {K : Int → Prop} {R : Int → Value} {es : Array MapEntry} {clock : Nat} {e : Int}
theorem MBN.find_in (h : MBN w b K R es clock) (he : K e) : ∃ j x, Instr.findNow (.int .i64) (.int .i64 e) es.toList 0 = some (some (j, R e)) ∧ es.toList[j]? = some x ∧ x.key = .int .i64 e := by
  have hk : ∀ x ∈ es.toList, MapKept.IsKey (.int .i64) x.key := fun x hx => by obtain ⟨e', _, hk, _⟩ := h.ent x hx; rw [hk]; simp [MapKept.IsKey]
  rcases MapKept.findNow_spec (d := .int .i64) (k := .int .i64 e) (by simp [MapKept.IsKey]) es.toList 0 hk with ⟨_, hf⟩ | ⟨j, x, hf, hj, hx⟩
  · obtain ⟨x, hx, hxe⟩ := h.key e he
    exact absurd hxe (hf x hx)
  · obtain ⟨e', _, hk', hv⟩ := h.ent x (List.mem_of_getElem? hj)
    rw [hx] at hk'
    injection hk' with _ hee
    subst hee
    exact ⟨j, x, by rw [hf, hv, Nat.zero_add], hj, hx⟩
theorem MBN.find_not (h : MBN w b K R es clock) (he : ¬ K e) : Instr.findNow (.int .i64) (.int .i64 e) es.toList 0 = some none ∧ ∀ x ∈ es.toList, x.key ≠ .int .i64 e := by
  have hk : ∀ x ∈ es.toList, MapKept.IsKey (.int .i64) x.key := fun x hx => by obtain ⟨e', _, hk, _⟩ := h.ent x hx; rw [hk]; simp [MapKept.IsKey]
  rcases MapKept.findNow_spec (d := .int .i64) (k := .int .i64 e) (by simp [MapKept.IsKey]) es.toList 0 hk with ⟨hf, hn⟩ | ⟨j, x, _, hj, hx⟩
  · exact ⟨hf, hn⟩
  · obtain ⟨e', hK, hk', _⟩ := h.ent x (List.mem_of_getElem? hj)
    rw [hx] at hk'
    injection hk' with _ hee
    subst hee
    exact absurd hK he
end
theorem MBN.size_list {w : World} {b : Nat} {K : Int → Prop} {R : Int → Value} {es : Array MapEntry} {clock : Nat} (h : MBN w b K R es clock) (l : List Int) (hl : l.Nodup) (hK : ∀ e, K e ↔ e ∈ l) : es.size = l.length := by
  have hnd : (es.toList.map (·.key)).Nodup := h.st.2.2
  have hn2 : (l.map (Value.int .i64)).Nodup := by
    rw [List.Nodup, List.pairwise_map]
    exact hl.imp (fun hne e => hne (by injection e))
  have hp : (es.toList.map (·.key)).Perm (l.map (Value.int .i64)) := by
    refine (List.perm_ext_iff_of_nodup hnd hn2).2 (fun v => ⟨fun hv => ?_, fun hv => ?_⟩)
    · obtain ⟨x, hx, rfl⟩ := List.mem_map.1 hv
      obtain ⟨e, he, hk, _⟩ := h.ent x hx
      exact List.mem_map.2 ⟨e, (hK e).1 he, hk.symm⟩
    · obtain ⟨e, he, rfl⟩ := List.mem_map.1 hv
      obtain ⟨x, hx, hk⟩ := h.key e ((hK e).2 he)
      exact List.mem_map.2 ⟨x, hx, hk⟩
  have := hp.length_eq
  simpa using this
theorem check_iB (k : Int) (w : World) (e : Bool) : (Instr.checkKey e 10000 3 (.int .i64 k)).run Try.prog w = .ok () w :=
  MapKept.run_checkKey (k := .int .i64 k) Try.underlying3 (by simp [MapKept.IsKey]) e 9999
theorem info_bB : (Try.prog.info? 5).map (·.zero) = some (some (.int .u8 0)) := by kernel_rfl
theorem zero_bB (w : World) : (zeroValue 5).run Try.prog w = .ok (.int .u8 0) w := by
  have h := info_bB
  cases hi : Try.prog.info? 5 with
  | none => rw [hi] at h; simp at h
  | some i =>
    rw [hi] at h
    simp at h
    simp [zeroValue, typeInfo, hi, h, go_sem]
section
variable {w : World} {b : Nat} {K : Int → Prop} {R : Int → Value} {e : Int}
theorem MBP.look_b (h : MBP w b K R) (he : K e) : (Instr.lookup 57 (.map (some b)) (.int .i64 e) false).run Try.prog w = .ok (R e) w := by
  obtain ⟨es, clock, h⟩ := h
  obtain ⟨j, x, hf, _, _⟩ := h.find_in he
  simp [Instr.lookup, run_underlying Try.underlying57, MapKept.run_getObj_map h.at_, check_iB e w, MapKept.run_findKey Try.underlying3 hf, Result.andThen]
theorem MBP.look_no_b (h : MBP w b K R) (he : ¬ K e) : (Instr.lookup 57 (.map (some b)) (.int .i64 e) false).run Try.prog w = .ok (.int .u8 0) w := by
  obtain ⟨es, clock, h⟩ := h
  obtain ⟨hf, _⟩ := h.find_not he
  simp [Instr.lookup, run_underlying Try.underlying57, MapKept.run_getObj_map h.at_, check_iB e w, MapKept.run_findKey Try.underlying3 hf, zero_bB, Result.andThen]
theorem MBP.lookok_b (h : MBP w b K R) (he : K e) : (Instr.lookup 57 (.map (some b)) (.int .i64 e) true).run Try.prog w = .ok (.tuple #[R e, .bool true]) w := by
  obtain ⟨es, clock, h⟩ := h
  obtain ⟨j, x, hf, _, _⟩ := h.find_in he
  simp [Instr.lookup, run_underlying Try.underlying57, MapKept.run_getObj_map h.at_, check_iB e w, MapKept.run_findKey Try.underlying3 hf, Result.andThen]
theorem MBP.lookno_b (h : MBP w b K R) (he : ¬ K e) : (Instr.lookup 57 (.map (some b)) (.int .i64 e) true).run Try.prog w = .ok (.tuple #[(.int .u8 0), .bool false]) w := by
  obtain ⟨es, clock, h⟩ := h
  obtain ⟨hf, _⟩ := h.find_not he
  simp [Instr.lookup, run_underlying Try.underlying57, MapKept.run_getObj_map h.at_, check_iB e w, MapKept.run_findKey Try.underlying3 hf, zero_bB, Result.andThen]
theorem MBP.put_b (h : MBP w b K R) (e : Int) (v : Value) : ∃ w', (Instr.mapUpdate 57 (.map (some b)) (.int .i64 e) v).run Try.prog w = .ok () w' ∧ MBP w' b (fun a => a = e ∨ K a) (fun a => if a = e then v else R a) ∧ But (fun g => g = b) w w' := by
  obtain ⟨es, clock, h⟩ := h
  by_cases he : K e
  · obtain ⟨j, x0, hf, hj, hx0⟩ := h.find_in he
    have hj' : es[j]? = some x0 := by rw [← hj]; simp
    have hs := h.st
    have hkeys : (es.modify j fun q => { q with key := .int .i64 e, val := v }).toList.map (·.key) = es.toList.map (·.key) := MapKept.modify_keys j _ (fun q hq => by rw [hj'] at hq; injection hq with hq; subst hq; exact hx0.symm)
    refine ⟨setB w b (.map (es.modify j fun q => { q with key := .int .i64 e, val := v }) clock), ?_, ⟨_, _, setB_at _ h.at_, MapKept.stamped_modify hs j _ (fun _ _ => rfl) (fun q _ hq => by rw [hj'] at hq; injection hq with hq; subst hq; exact hx0.symm), fun x hx => ?_, fun a ha => ?_⟩, setB_but _ _ _⟩
    · simp [setB, Instr.mapUpdate, run_underlying Try.underlying57, MapKept.run_getObj_map h.at_, check_iB e w, MapKept.run_findKey Try.underlying3 hf, MapKept.run_setObj_map _ h.at_, hj', hx0, Instr.keyThatStays, Instr.sameBits, Result.andThen]
    · obtain ⟨i, hi⟩ := List.getElem?_of_mem hx
      rw [Array.getElem?_toList, Array.getElem?_modify] at hi
      by_cases hij : j = i
      · subst hij
        rw [if_pos rfl, hj'] at hi
        injection hi with hi
        subst hi
        exact ⟨e, .inl rfl, rfl, by simp⟩
      · rw [if_neg hij] at hi
        have hm : x ∈ es.toList := by rw [← Array.getElem?_toList] at hi; exact List.mem_of_getElem? hi
        obtain ⟨a, ha, hk, hv⟩ := h.ent x hm
        refine ⟨a, .inr ha, hk, ?_⟩
        try simp only
        rw [if_neg]
        · exact hv
        · rintro rfl
          have hnd := hs.2.2
          rw [← Array.getElem?_toList] at hi
          have e1 : (es.toList.map (·.key))[j]? = some (.int .i64 a) := by rw [List.getElem?_map, hj]; simp [hx0]
          have e2 : (es.toList.map (·.key))[i]? = some (.int .i64 a) := by rw [List.getElem?_map, hi]; simp [hk]
          have hjl := (List.getElem?_eq_some_iff.1 e1).1
          exact hij ((List.getElem?_inj hjl hnd).1 (e1.trans e2.symm))
    · have ha' : K a := by rcases ha with rfl | ha; exact he; exact ha
      obtain ⟨x, hx, hk⟩ := h.key a ha'
      have : (Value.int .i64 a) ∈ (es.modify j fun q => { q with key := .int .i64 e, val := v }).toList.map (·.key) := by rw [hkeys]; exact List.mem_map.2 ⟨x, hx, hk⟩
      obtain ⟨y, hy, hyk⟩ := List.mem_map.1 this
      exact ⟨y, hy, hyk⟩
  · obtain ⟨hf, hno⟩ := h.find_not he
    refine ⟨setB w b (.map (es.push ⟨.int .i64 e, v, clock⟩) (clock + 1)), ?_, ⟨_, _, setB_at _ h.at_, MapKept.stamped_push h.st hno, fun x hx => ?_, fun a ha => ?_⟩, setB_but _ _ _⟩
    · simp [setB, Instr.mapUpdate, run_underlying Try.underlying57, MapKept.run_getObj_map h.at_, check_iB e w, MapKept.run_findKey Try.underlying3 hf, MapKept.run_setObj_map _ h.at_, Result.andThen]
    · simp only [Array.toList_push, List.mem_append, List.mem_singleton] at hx
      rcases hx with hx | rfl
      · obtain ⟨a, ha, hk, hv⟩ := h.ent x hx
        exact ⟨a, .inr ha, hk, by rw [if_neg (fun q : a = e => he (q ▸ ha))]; exact hv⟩
      · exact ⟨e, .inl rfl, rfl, by simp⟩
    · rcases ha with rfl | ha
      · exact ⟨⟨.int .i64 a, v, clock⟩, by simp, rfl⟩
      · obtain ⟨x, hx, hk⟩ := h.key a ha
        exact ⟨x, by simp only [Array.toList_push, List.mem_append]; exact .inl hx, hk⟩
theorem MBP.del_b (h : MBP w b K R) (he : K e) (ty : TypeId) : ∃ w', (Builtin.delete_ #[57, 3] ty #[.map (some b), .int .i64 e]).run Try.prog w = .ok (.tuple #[]) w' ∧ MBP w' b (fun a => a ≠ e ∧ K a) R ∧ But (fun g => g = b) w w' := by
  obtain ⟨es, clock, h⟩ := h
  obtain ⟨j, x0, hf, hj, hx0⟩ := h.find_in he
  have hs := h.st
  have hjl : j < es.size := by have := (List.getElem?_eq_some_iff.1 hj).1; simpa using this
  have hE : (es.eraseIdxIfInBounds j).toList = es.toList.eraseIdx j := by simp [Array.eraseIdxIfInBounds, hjl]
  refine ⟨setB w b (.map (es.eraseIdxIfInBounds j) clock), ?_, ⟨_, _, setB_at _ h.at_, MapKept.stamped_erase hs j, fun x hx => ?_, fun a ha => ?_⟩, setB_but _ _ _⟩
  · simp [setB, Builtin.delete_, run_underlying Try.underlying57, MapKept.run_getObj_map h.at_, check_iB e w, MapKept.run_findKey Try.underlying3 hf, MapKept.run_setObj_map _ h.at_, Result.andThen]
  · rw [hE] at hx
    obtain ⟨i, hij, hi⟩ := List.mem_eraseIdx_iff_getElem?.1 hx
    obtain ⟨a, ha, hk, hv⟩ := h.ent x (List.mem_of_getElem? hi)
    refine ⟨a, ⟨?_, ha⟩, hk, hv⟩
    rintro rfl
    have e1 : (es.toList.map (·.key))[j]? = some (.int .i64 a) := by rw [List.getElem?_map, hj]; simp [hx0]
    have e2 : (es.toList.map (·.key))[i]? = some (.int .i64 a) := by rw [List.getElem?_map, hi]; simp [hk]
    have hjl' := (List.getElem?_eq_some_iff.1 e1).1
    exact hij ((List.getElem?_inj hjl' hs.2.2).1 (e1.trans e2.symm)).symm
  · obtain ⟨hne, ha⟩ := ha
    obtain ⟨x, hx, hk⟩ := h.key a ha
    obtain ⟨i, hi⟩ := List.getElem?_of_mem hx
    refine ⟨x, ?_, hk⟩
    rw [hE]
    refine List.mem_eraseIdx_iff_getElem?.2 ⟨i, fun q => hne ?_, hi⟩
    subst q
    rw [hj] at hi
    injection hi with hi
    subst hi
    rw [hx0] at hk
    injection hk with _ hk
    exact hk.symm
theorem MBN.len_b {es : Array MapEntry} {clock : Nat} (h : MBN w b K R es clock) (ty : TypeId) : (Builtin.len_ #[57] ty #[.map (some b)]).run Try.prog w = .ok (.int .i64 (es.size : Nat)) w := by
  simp [Builtin.len_, run_underlying Try.underlying57, MapKept.run_getObj_map h.at_, Result.andThen, goInt]
/-- As many as there are keys. -/
theorem MBP.len_b (h : MBP w b K R) (l : List Int) (hl : l.Nodup) (hK : ∀ e, K e ↔ e ∈ l) (ty : TypeId) : (Builtin.len_ #[57] ty #[.map (some b)]).run Try.prog w = .ok (.int .i64 (l.length : Nat)) w := by
  obtain ⟨es, clock, h⟩ := h
  rw [h.len_b ty, h.size_list l hl hK]
end
end Go.Proofs.Ytmmnicnebammhaa
