/-
  Maps from tuples (api.Tuple) to uint64: how the run looks up, puts in, takes out, counts.
-/
import Derived.Test.YtnhlbohdlnjaaaaFl
import Derived.Test.YtnhlbohdlnjaaaaMapU
import Derived.WideKeyRuns
namespace Go.Proofs.Ytnhlbohdlnjaaaa
set_option maxRecDepth 10000
open Go.RowKit
set_option linter.unusedSimpArgs false
set_option linter.unusedVariables false

def tv (t : Tu) : Value := .agg #[.int .u8 t.pr, .int .u32 t.sr, .int .u32 t.ds, .int .u16 t.sp, .int .u16 t.dp]
theorem tv_inj {a b : Tu} (h : tv a = tv b) : a = b := by
  obtain ⟨a1, a2, a3, a4, a5⟩ := a
  obtain ⟨b1, b2, b3, b4, b5⟩ := b
  unfold tv at h
  simp at h
  simp [h]
theorem equal_tu (a b : Tu) (w : World) : (Op.equal 37 (tv a) (tv b)).run Try.prog w = .ok (tuSame a b) w := by
  have h := tu_eql a b w
  simp only [binOp] at h
  have h2 : ((Op.equal 37 (tv a) (tv b)) >>= fun x => pure (Value.bool x)).run Try.prog w = .ok (.bool (tuSame a b)) w := h
  rw [Sem.run_bind] at h2
  cases hq : (Op.equal 37 (tv a) (tv b)).run Try.prog w with
  | halt _ _ => rw [hq] at h2; simp [Result.andThen] at h2
  | ok x w1 =>
    rw [hq] at h2
    simp [Result.andThen] at h2
    rw [h2.1, h2.2]
theorem wide_tu : (match Try.prog.underlying 37 with | some (.array _ _) | some (.struct _) => true | _ => false) = true := by kernel_rfl
theorem check_tu (t : Tu) (w : World) (e : Bool) : (Instr.checkKey e 10000 37 (tv t)).run Try.prog w = .ok () w := by
  unfold tv
  obtain ⟨n, hn⟩ : ∃ n : Nat, 10000 = n + 1 + 1 := ⟨9998, rfl⟩
  rw [hn]
  clear hn
  simp [Instr.checkKey, run_underlying Try.underlying37, run_underlying Try.underlying5, run_underlying Try.underlying35, run_underlying Try.underlying34, part, go_sem, Result.andThen]
theorem stays_tu (t : Tu) (w : World) : (Instr.keyThatStays (tv t) (tv t)).run Try.prog w = .ok (tv t) w := by
  unfold tv
  rw [Instr.keyThatStays]
  obtain ⟨n, hn⟩ : ∃ n : Nat, 10000 = n + 1 + 1 := ⟨9998, rfl⟩
  rw [hn]
  clear hn
  simp [Instr.sameBits]
/-- Block b is a map with the entries es: their keys are those of K; R tells what stands at each. -/
structure MTN (w : World) (b : Nat) (K : Tu → Prop) (R : Tu → Value) (es : Array MapEntry) (clock : Nat) : Prop where
  at_ : w.heap[b]? = some (.map es clock)
  st : MapKept.Stamped es clock
  ent : ∀ x ∈ es.toList, ∃ e, K e ∧ x.key = tv e ∧ x.val = R e
  key : ∀ e, K e → ∃ x ∈ es.toList, x.key = tv e
def MTP (w : World) (b : Nat) (K : Tu → Prop) (R : Tu → Value) : Prop := ∃ es clock, MTN w b K R es clock
theorem MTP.lt {w : World} {b : Nat} {K : Tu → Prop} {R : Tu → Value} (h : MTP w b K R) : b < w.heap.size := by
  obtain ⟨es, clock, h⟩ := h
  exact lt_of_block h.at_
theorem MTP.but {S : Nat → Prop} {w w' : World} {b : Nat} {K : Tu → Prop} {R : Tu → Value} (h : MTP w b K R) (hb : But S w w') (hn : ¬ S b) : MTP w' b K R := by
  obtain ⟨es, clock, h⟩ := h
  exact ⟨es, clock, hb.blk h.at_ hn, h.st, h.ent, h.key⟩
theorem MTP.congr {w : World} {b : Nat} {K K' : Tu → Prop} {R R' : Tu → Value} (h : MTP w b K R) (hK : ∀ e, K e ↔ K' e) (hR : ∀ e, K e → R e = R' e) : MTP w b K' R' := by
  obtain ⟨es, clock, hg, hs, h1, h2⟩ := h
  exact ⟨es, clock, hg, hs, fun x hx => by obtain ⟨e, he, hk, hv⟩ := h1 x hx; exact ⟨e, (hK e).1 he, hk, hv.trans (hR e he)⟩, fun e he => h2 e ((hK e).2 he)⟩
theorem MTP.made (w : World) (R : Tu → Value) (g : Nat) (hg : w.heap.size = g) : MTP (w.alloc (.map #[] 0)) g (fun _ => False) R := by
  subst hg
  exact ⟨#[], 0, heap_alloc_new w _, MapKept.stamped_empty 0, fun x hx => by simp at hx, fun e he => he.elim⟩
theorem asking_tu (e : Tu) (w : World) : ∀ (l : List MapEntry) (i : Nat), (∀ x ∈ l, ∃ t, x.key = tv t) →
    ((Instr.findAsking 37 (tv e) l i).run Try.prog w = .ok none w ∧ ∀ x ∈ l, x.key ≠ tv e) ∨ ∃ j x, (Instr.findAsking 37 (tv e) l i).run Try.prog w = .ok (some (i + j, x.val)) w ∧ l[j]? = some x ∧ x.key = tv e
  | [], _, _ => .inl ⟨rfl, by simp⟩
  | x :: l, i, h => by
    obtain ⟨t, ht⟩ := h x (.head _)
    have heq := equal_tu e t w
    by_cases hq : e = t
    · subst hq
      rw [tuSame_self] at heq
      exact .inr ⟨0, x, by simp [Instr.findAsking, ht, heq, Result.andThen], rfl, ht⟩
    · have hs : tuSame e t = false := by
        cases hh : tuSame e t
        · rfl
        · exact absurd ((tuSame_iff _ _).1 hh) hq
      rw [hs] at heq
      have hne : x.key ≠ tv e := fun q => hq (tv_inj (q.symm.trans ht))
      rcases asking_tu e w l (i + 1) (fun y hy => h y (.tail _ hy)) with ⟨h1, h2⟩ | ⟨j, y, h1, h2, h3⟩
      · exact .inl ⟨by simp [Instr.findAsking, ht, heq, Result.andThen, h1], fun y hy => by
          cases hy with
          | head => exact hne
          | tail _ hy => exact h2 y hy⟩
      · exact .inr ⟨j + 1, y, by simp [Instr.findAsking, ht, heq, Result.andThen, h1]; omega, by simpa using h2, h3⟩
section
variable {w : World} {b : Nat} {K : Tu → Prop} {R : Tu → Value} {es : Array MapEntry} {clock : Nat} {e : Tu}
theorem MTN.find_in (h : MTN w b K R es clock) (he : K e) : ∃ j x, (Instr.findKey 37 (tv e) es.toList).run Try.prog w = .ok (some (j, R e)) w ∧ es.toList[j]? = some x ∧ x.key = tv e := by
  rw [run_findKey_eq w wide_tu]
  rcases asking_tu e w es.toList 0 (fun x hx => by obtain ⟨t, _, hk, _⟩ := h.ent x hx; exact ⟨t, hk⟩) with ⟨_, hf⟩ | ⟨j, x, hf, hj, hx⟩
  · obtain ⟨x, hx, hxe⟩ := h.key e he
    exact absurd hxe (hf x hx)
  · obtain ⟨e', _, hk', hv⟩ := h.ent x (List.mem_of_getElem? hj)
    have := tv_inj (hx.symm.trans hk')
    subst this
    exact ⟨j, x, by rw [hf, hv, Nat.zero_add], hj, hx⟩
theorem MTN.find_not (h : MTN w b K R es clock) (he : ¬ K e) : (Instr.findKey 37 (tv e) es.toList).run Try.prog w = .ok none w ∧ ∀ x ∈ es.toList, x.key ≠ tv e := by
  rw [run_findKey_eq w wide_tu]
  rcases asking_tu e w es.toList 0 (fun x hx => by obtain ⟨t, _, hk, _⟩ := h.ent x hx; exact ⟨t, hk⟩) with ⟨hf, hn⟩ | ⟨j, x, _, hj, hx⟩
  · exact ⟨hf, hn⟩
  · obtain ⟨e', hK, hk', _⟩ := h.ent x (List.mem_of_getElem? hj)
    have := tv_inj (hx.symm.trans hk')
    subst this
    exact absurd hK he
end
theorem info_uT : (Try.prog.info? 32).map (·.zero) = some (some (.int .u64 0)) := by kernel_rfl
theorem zero_uT (w : World) : (zeroValue 32).run Try.prog w = .ok (.int .u64 0) w := by
  have h := info_uT
  cases hi : Try.prog.info? 32 with
  | none => rw [hi] at h; simp at h
  | some i =>
    rw [hi] at h
    simp at h
    simp [zeroValue, typeInfo, hi, h, go_sem]
section
variable {w : World} {b : Nat} {K : Tu → Prop} {R : Tu → Value} {t : Tu}
theorem MTP.look_u (h : MTP w b K R) (he : K t) : (Instr.lookup 70 (.map (some b)) (.agg #[.int .u8 t.pr, .int .u32 t.sr, .int .u32 t.ds, .int .u16 t.sp, .int .u16 t.dp]) false).run Try.prog w = .ok (R t) w := by
  obtain ⟨es, clock, h⟩ := h
  obtain ⟨j, x, hf, _, _⟩ := h.find_in he
  show (Instr.lookup _ _ (tv t) _).run _ _ = _
  simp [Instr.lookup, run_underlying Try.underlying70, MapKept.run_getObj_map h.at_, check_tu t w, hf, Result.andThen]
theorem MTP.look_no_u (h : MTP w b K R) (he : ¬ K t) : (Instr.lookup 70 (.map (some b)) (.agg #[.int .u8 t.pr, .int .u32 t.sr, .int .u32 t.ds, .int .u16 t.sp, .int .u16 t.dp]) false).run Try.prog w = .ok (.int .u64 0) w := by
  obtain ⟨es, clock, h⟩ := h
  obtain ⟨hf, _⟩ := h.find_not he
  show (Instr.lookup _ _ (tv t) _).run _ _ = _
  simp [Instr.lookup, run_underlying Try.underlying70, MapKept.run_getObj_map h.at_, check_tu t w, hf, zero_uT, Result.andThen]
theorem MTP.lookok_u (h : MTP w b K R) (he : K t) : (Instr.lookup 70 (.map (some b)) (.agg #[.int .u8 t.pr, .int .u32 t.sr, .int .u32 t.ds, .int .u16 t.sp, .int .u16 t.dp]) true).run Try.prog w = .ok (.tuple #[R t, .bool true]) w := by
  obtain ⟨es, clock, h⟩ := h
  obtain ⟨j, x, hf, _, _⟩ := h.find_in he
  show (Instr.lookup _ _ (tv t) _).run _ _ = _
  simp [Instr.lookup, run_underlying Try.underlying70, MapKept.run_getObj_map h.at_, check_tu t w, hf, Result.andThen]
theorem MTP.lookno_u (h : MTP w b K R) (he : ¬ K t) : (Instr.lookup 70 (.map (some b)) (.agg #[.int .u8 t.pr, .int .u32 t.sr, .int .u32 t.ds, .int .u16 t.sp, .int .u16 t.dp]) true).run Try.prog w = .ok (.tuple #[(.int .u64 0), .bool false]) w := by
  obtain ⟨es, clock, h⟩ := h
  obtain ⟨hf, _⟩ := h.find_not he
  show (Instr.lookup _ _ (tv t) _).run _ _ = _
  simp [Instr.lookup, run_underlying Try.underlying70, MapKept.run_getObj_map h.at_, check_tu t w, hf, zero_uT, Result.andThen]
theorem MTP.put_u (h : MTP w b K R) (t : Tu) (v : Value) : ∃ w', (Instr.mapUpdate 70 (.map (some b)) (.agg #[.int .u8 t.pr, .int .u32 t.sr, .int .u32 t.ds, .int .u16 t.sp, .int .u16 t.dp]) v).run Try.prog w = .ok () w' ∧ MTP w' b (fun a => a = t ∨ K a) (fun a => if a = t then v else R a) ∧ But (fun g => g = b) w w' := by
  obtain ⟨es, clock, h⟩ := h
  show ∃ w', (Instr.mapUpdate _ _ (tv t) v).run _ _ = _ ∧ _
  by_cases he : K t
  · obtain ⟨j, x0, hf, hj, hx0⟩ := h.find_in he
    have hj' : es[j]? = some x0 := by rw [← hj]; simp
    have hs := h.st
    have hkeys : (es.modify j fun q => { q with key := tv t, val := v }).toList.map (·.key) = es.toList.map (·.key) := MapKept.modify_keys j _ (fun q hq => by rw [hj'] at hq; injection hq with hq; subst hq; exact hx0.symm)
    refine ⟨setU w b (.map (es.modify j fun q => { q with key := tv t, val := v }) clock), ?_, ⟨_, _, setU_at _ h.at_, MapKept.stamped_modify hs j _ (fun _ _ => rfl) (fun q _ hq => by rw [hj'] at hq; injection hq with hq; subst hq; exact hx0.symm), fun x hx => ?_, fun a ha => ?_⟩, setU_but _ _ _⟩
    · simp [setU, Instr.mapUpdate, run_underlying Try.underlying70, MapKept.run_getObj_map h.at_, check_tu t w, hf, MapKept.run_setObj_map _ h.at_, hj', hx0, stays_tu t w, Result.andThen]
    · obtain ⟨i, hi⟩ := List.getElem?_of_mem hx
      rw [Array.getElem?_toList, Array.getElem?_modify] at hi
      by_cases hij : j = i
      · subst hij
        rw [if_pos rfl, hj'] at hi
        injection hi with hi
        subst hi
        exact ⟨t, .inl rfl, rfl, by simp⟩
      · rw [if_neg hij] at hi
        have hm : x ∈ es.toList := by rw [← Array.getElem?_toList] at hi; exact List.mem_of_getElem? hi
        obtain ⟨a, ha, hk, hv⟩ := h.ent x hm
        refine ⟨a, .inr ha, hk, ?_⟩
        try simp only
        rw [if_neg]
        · exact hv
        · rintro rfl
          have hnd := hs.2.2
          rw [← Array.getElem?_toList] at hi
          have e1 : (es.toList.map (·.key))[j]? = some (tv a) := by rw [List.getElem?_map, hj]; simp [hx0]
          have e2 : (es.toList.map (·.key))[i]? = some (tv a) := by rw [List.getElem?_map, hi]; simp [hk]
          have hjl := (List.getElem?_eq_some_iff.1 e1).1
          exact hij ((List.getElem?_inj hjl hnd).1 (e1.trans e2.symm))
    · have ha' : K a := by rcases ha with rfl | ha; exact he; exact ha
      obtain ⟨x, hx, hk⟩ := h.key a ha'
      have : (tv a) ∈ (es.modify j fun q => { q with key := tv t, val := v }).toList.map (·.key) := by rw [hkeys]; exact List.mem_map.2 ⟨x, hx, hk⟩
      obtain ⟨y, hy, hyk⟩ := List.mem_map.1 this
      exact ⟨y, hy, hyk⟩
  · obtain ⟨hf, hno⟩ := h.find_not he
    refine ⟨setU w b (.map (es.push ⟨tv t, v, clock⟩) (clock + 1)), ?_, ⟨_, _, setU_at _ h.at_, MapKept.stamped_push h.st hno, fun x hx => ?_, fun a ha => ?_⟩, setU_but _ _ _⟩
    · simp [setU, Instr.mapUpdate, run_underlying Try.underlying70, MapKept.run_getObj_map h.at_, check_tu t w, hf, MapKept.run_setObj_map _ h.at_, Result.andThen]
    · simp only [Array.toList_push, List.mem_append, List.mem_singleton] at hx
      rcases hx with hx | rfl
      · obtain ⟨a, ha, hk, hv⟩ := h.ent x hx
        exact ⟨a, .inr ha, hk, by rw [if_neg (fun q : a = t => he (q ▸ ha))]; exact hv⟩
      · exact ⟨t, .inl rfl, rfl, by simp⟩
    · rcases ha with rfl | ha
      · exact ⟨⟨tv a, v, clock⟩, by simp, rfl⟩
      · obtain ⟨x, hx, hk⟩ := h.key a ha
        exact ⟨x, by simp only [Array.toList_push, List.mem_append]; exact .inl hx, hk⟩
theorem MTP.del_u (h : MTP w b K R) (t : Tu) (ty : TypeId) : ∃ w', (Builtin.delete_ #[70, 37] ty #[.map (some b), .agg #[.int .u8 t.pr, .int .u32 t.sr, .int .u32 t.ds, .int .u16 t.sp, .int .u16 t.dp]]).run Try.prog w = .ok (.tuple #[]) w' ∧ MTP w' b (fun a => a ≠ t ∧ K a) R ∧ But (fun g => g = b) w w' := by
  obtain ⟨es, clock, h⟩ := h
  show ∃ w', (Builtin.delete_ _ _ #[_, tv t]).run _ _ = _ ∧ _
  by_cases he : K t
  · obtain ⟨j, x0, hf, hj, hx0⟩ := h.find_in he
    have hs := h.st
    have hjl : j < es.size := by have := (List.getElem?_eq_some_iff.1 hj).1; simpa using this
    have hE : (es.eraseIdxIfInBounds j).toList = es.toList.eraseIdx j := by simp [Array.eraseIdxIfInBounds, hjl]
    refine ⟨setU w b (.map (es.eraseIdxIfInBounds j) clock), ?_, ⟨_, _, setU_at _ h.at_, MapKept.stamped_erase hs j, fun x hx => ?_, fun a ha => ?_⟩, setU_but _ _ _⟩
    · simp [setU, Builtin.delete_, run_underlying Try.underlying70, MapKept.run_getObj_map h.at_, check_tu t w, hf, MapKept.run_setObj_map _ h.at_, Result.andThen]
    · rw [hE] at hx
      obtain ⟨i, hij, hi⟩ := List.mem_eraseIdx_iff_getElem?.1 hx
      obtain ⟨a, ha, hk, hv⟩ := h.ent x (List.mem_of_getElem? hi)
      refine ⟨a, ⟨?_, ha⟩, hk, hv⟩
      rintro rfl
      have e1 : (es.toList.map (·.key))[j]? = some (tv a) := by rw [List.getElem?_map, hj]; simp [hx0]
      have e2 : (es.toList.map (·.key))[i]? = some (tv a) := by rw [List.getElem?_map, hi]; simp [hk]
      have hjl' := (List.getElem?_eq_some_iff.1 e1).1
      exact hij ((List.getElem?_inj hjl' hs.2.2).1 (e1.trans e2.symm)).symm
    · obtain ⟨hne, ha⟩ := ha
      obtain ⟨x, hx, hk⟩ := h.key a ha
      obtain ⟨i, hi⟩ := List.getElem?_of_mem hx
      refine ⟨x, ?_, hk⟩
      rw [hE]
      refine List.mem_eraseIdx_iff_getElem?.2 ⟨i, fun q => hne ?_, hi⟩
      subst q
      rw [hj] at hi
      injection hi with hi
      subst hi
      rw [hx0] at hk
      exact (tv_inj hk).symm
  · obtain ⟨hf, hno⟩ := h.find_not he
    refine ⟨setU w b (.map es clock), ?_, ⟨_, _, setU_at _ h.at_, h.st, fun x hx => ?_, fun a ha => h.key a ha.2⟩, setU_but _ _ _⟩
    · simp [setU, Builtin.delete_, run_underlying Try.underlying70, MapKept.run_getObj_map h.at_, check_tu t w, hf, MapKept.run_setObj_map _ h.at_, Result.andThen]
    · obtain ⟨a, ha, hk, hv⟩ := h.ent x hx
      exact ⟨a, ⟨fun q => he (q ▸ ha), ha⟩, hk, hv⟩
end
theorem info_iT : (Try.prog.info? 3).map (·.zero) = some (some (.int .i64 0)) := by kernel_rfl
theorem zero_iT (w : World) : (zeroValue 3).run Try.prog w = .ok (.int .i64 0) w := by
  have h := info_iT
  cases hi : Try.prog.info? 3 with
  | none => rw [hi] at h; simp at h
  | some i =>
    rw [hi] at h
    simp at h
    simp [zeroValue, typeInfo, hi, h, go_sem]
section
variable {w : World} {b : Nat} {K : Tu → Prop} {R : Tu → Value} {t : Tu}
theorem MTP.look_i (h : MTP w b K R) (he : K t) : (Instr.lookup 65 (.map (some b)) (.agg #[.int .u8 t.pr, .int .u32 t.sr, .int .u32 t.ds, .int .u16 t.sp, .int .u16 t.dp]) false).run Try.prog w = .ok (R t) w := by
  obtain ⟨es, clock, h⟩ := h
  obtain ⟨j, x, hf, _, _⟩ := h.find_in he
  show (Instr.lookup _ _ (tv t) _).run _ _ = _
  simp [Instr.lookup, run_underlying Try.underlying65, MapKept.run_getObj_map h.at_, check_tu t w, hf, Result.andThen]
theorem MTP.look_no_i (h : MTP w b K R) (he : ¬ K t) : (Instr.lookup 65 (.map (some b)) (.agg #[.int .u8 t.pr, .int .u32 t.sr, .int .u32 t.ds, .int .u16 t.sp, .int .u16 t.dp]) false).run Try.prog w = .ok (.int .i64 0) w := by
  obtain ⟨es, clock, h⟩ := h
  obtain ⟨hf, _⟩ := h.find_not he
  show (Instr.lookup _ _ (tv t) _).run _ _ = _
  simp [Instr.lookup, run_underlying Try.underlying65, MapKept.run_getObj_map h.at_, check_tu t w, hf, zero_iT, Result.andThen]
theorem MTP.lookok_i (h : MTP w b K R) (he : K t) : (Instr.lookup 65 (.map (some b)) (.agg #[.int .u8 t.pr, .int .u32 t.sr, .int .u32 t.ds, .int .u16 t.sp, .int .u16 t.dp]) true).run Try.prog w = .ok (.tuple #[R t, .bool true]) w := by
  obtain ⟨es, clock, h⟩ := h
  obtain ⟨j, x, hf, _, _⟩ := h.find_in he
  show (Instr.lookup _ _ (tv t) _).run _ _ = _
  simp [Instr.lookup, run_underlying Try.underlying65, MapKept.run_getObj_map h.at_, check_tu t w, hf, Result.andThen]
theorem MTP.lookno_i (h : MTP w b K R) (he : ¬ K t) : (Instr.lookup 65 (.map (some b)) (.agg #[.int .u8 t.pr, .int .u32 t.sr, .int .u32 t.ds, .int .u16 t.sp, .int .u16 t.dp]) true).run Try.prog w = .ok (.tuple #[(.int .i64 0), .bool false]) w := by
  obtain ⟨es, clock, h⟩ := h
  obtain ⟨hf, _⟩ := h.find_not he
  show (Instr.lookup _ _ (tv t) _).run _ _ = _
  simp [Instr.lookup, run_underlying Try.underlying65, MapKept.run_getObj_map h.at_, check_tu t w, hf, zero_iT, Result.andThen]
theorem MTP.put_i (h : MTP w b K R) (t : Tu) (v : Value) : ∃ w', (Instr.mapUpdate 65 (.map (some b)) (.agg #[.int .u8 t.pr, .int .u32 t.sr, .int .u32 t.ds, .int .u16 t.sp, .int .u16 t.dp]) v).run Try.prog w = .ok () w' ∧ MTP w' b (fun a => a = t ∨ K a) (fun a => if a = t then v else R a) ∧ But (fun g => g = b) w w' := by
  obtain ⟨es, clock, h⟩ := h
  show ∃ w', (Instr.mapUpdate _ _ (tv t) v).run _ _ = _ ∧ _
  by_cases he : K t
  · obtain ⟨j, x0, hf, hj, hx0⟩ := h.find_in he
    have hj' : es[j]? = some x0 := by rw [← hj]; simp
    have hs := h.st
    have hkeys : (es.modify j fun q => { q with key := tv t, val := v }).toList.map (·.key) = es.toList.map (·.key) := MapKept.modify_keys j _ (fun q hq => by rw [hj'] at hq; injection hq with hq; subst hq; exact hx0.symm)
    refine ⟨setU w b (.map (es.modify j fun q => { q with key := tv t, val := v }) clock), ?_, ⟨_, _, setU_at _ h.at_, MapKept.stamped_modify hs j _ (fun _ _ => rfl) (fun q _ hq => by rw [hj'] at hq; injection hq with hq; subst hq; exact hx0.symm), fun x hx => ?_, fun a ha => ?_⟩, setU_but _ _ _⟩
    · simp [setU, Instr.mapUpdate, run_underlying Try.underlying65, MapKept.run_getObj_map h.at_, check_tu t w, hf, MapKept.run_setObj_map _ h.at_, hj', hx0, stays_tu t w, Result.andThen]
    · obtain ⟨i, hi⟩ := List.getElem?_of_mem hx
      rw [Array.getElem?_toList, Array.getElem?_modify] at hi
      by_cases hij : j = i
      · subst hij
        rw [if_pos rfl, hj'] at hi
        injection hi with hi
        subst hi
        exact ⟨t, .inl rfl, rfl, by simp⟩
      · rw [if_neg hij] at hi
        have hm : x ∈ es.toList := by rw [← Array.getElem?_toList] at hi; exact List.mem_of_getElem? hi
        obtain ⟨a, ha, hk, hv⟩ := h.ent x hm
        refine ⟨a, .inr ha, hk, ?_⟩
        try simp only
        rw [if_neg]
        · exact hv
        · rintro rfl
          have hnd := hs.2.2
          rw [← Array.getElem?_toList] at hi
          have e1 : (es.toList.map (·.key))[j]? = some (tv a) := by rw [List.getElem?_map, hj]; simp [hx0]
          have e2 : (es.toList.map (·.key))[i]? = some (tv a) := by rw [List.getElem?_map, hi]; simp [hk]
          have hjl := (List.getElem?_eq_some_iff.1 e1).1
          exact hij ((List.getElem?_inj hjl hnd).1 (e1.trans e2.symm))
    · have ha' : K a := by rcases ha with rfl | ha; exact he; exact ha
      obtain ⟨x, hx, hk⟩ := h.key a ha'
      have : (tv a) ∈ (es.modify j fun q => { q with key := tv t, val := v }).toList.map (·.key) := by rw [hkeys]; exact List.mem_map.2 ⟨x, hx, hk⟩
      obtain ⟨y, hy, hyk⟩ := List.mem_map.1 this
      exact ⟨y, hy, hyk⟩
  · obtain ⟨hf, hno⟩ := h.find_not he
    refine ⟨setU w b (.map (es.push ⟨tv t, v, clock⟩) (clock + 1)), ?_, ⟨_, _, setU_at _ h.at_, MapKept.stamped_push h.st hno, fun x hx => ?_, fun a ha => ?_⟩, setU_but _ _ _⟩
    · simp [setU, Instr.mapUpdate, run_underlying Try.underlying65, MapKept.run_getObj_map h.at_, check_tu t w, hf, MapKept.run_setObj_map _ h.at_, Result.andThen]
    · simp only [Array.toList_push, List.mem_append, List.mem_singleton] at hx
      rcases hx with hx | rfl
      · obtain ⟨a, ha, hk, hv⟩ := h.ent x hx
        exact ⟨a, .inr ha, hk, by rw [if_neg (fun q : a = t => he (q ▸ ha))]; exact hv⟩
      · exact ⟨t, .inl rfl, rfl, by simp⟩
    · rcases ha with rfl | ha
      · exact ⟨⟨tv a, v, clock⟩, by simp, rfl⟩
      · obtain ⟨x, hx, hk⟩ := h.key a ha
        exact ⟨x, by simp only [Array.toList_push, List.mem_append]; exact .inl hx, hk⟩
theorem MTP.del_i (h : MTP w b K R) (t : Tu) (ty : TypeId) : ∃ w', (Builtin.delete_ #[65, 37] ty #[.map (some b), .agg #[.int .u8 t.pr, .int .u32 t.sr, .int .u32 t.ds, .int .u16 t.sp, .int .u16 t.dp]]).run Try.prog w = .ok (.tuple #[]) w' ∧ MTP w' b (fun a => a ≠ t ∧ K a) R ∧ But (fun g => g = b) w w' := by
  obtain ⟨es, clock, h⟩ := h
  show ∃ w', (Builtin.delete_ _ _ #[_, tv t]).run _ _ = _ ∧ _
  by_cases he : K t
  · obtain ⟨j, x0, hf, hj, hx0⟩ := h.find_in he
    have hs := h.st
    have hjl : j < es.size := by have := (List.getElem?_eq_some_iff.1 hj).1; simpa using this
    have hE : (es.eraseIdxIfInBounds j).toList = es.toList.eraseIdx j := by simp [Array.eraseIdxIfInBounds, hjl]
    refine ⟨setU w b (.map (es.eraseIdxIfInBounds j) clock), ?_, ⟨_, _, setU_at _ h.at_, MapKept.stamped_erase hs j, fun x hx => ?_, fun a ha => ?_⟩, setU_but _ _ _⟩
    · simp [setU, Builtin.delete_, run_underlying Try.underlying65, MapKept.run_getObj_map h.at_, check_tu t w, hf, MapKept.run_setObj_map _ h.at_, Result.andThen]
    · rw [hE] at hx
      obtain ⟨i, hij, hi⟩ := List.mem_eraseIdx_iff_getElem?.1 hx
      obtain ⟨a, ha, hk, hv⟩ := h.ent x (List.mem_of_getElem? hi)
      refine ⟨a, ⟨?_, ha⟩, hk, hv⟩
      rintro rfl
      have e1 : (es.toList.map (·.key))[j]? = some (tv a) := by rw [List.getElem?_map, hj]; simp [hx0]
      have e2 : (es.toList.map (·.key))[i]? = some (tv a) := by rw [List.getElem?_map, hi]; simp [hk]
      have hjl' := (List.getElem?_eq_some_iff.1 e1).1
      exact hij ((List.getElem?_inj hjl' hs.2.2).1 (e1.trans e2.symm)).symm
    · obtain ⟨hne, ha⟩ := ha
      obtain ⟨x, hx, hk⟩ := h.key a ha
      obtain ⟨i, hi⟩ := List.getElem?_of_mem hx
      refine ⟨x, ?_, hk⟩
      rw [hE]
      refine List.mem_eraseIdx_iff_getElem?.2 ⟨i, fun q => hne ?_, hi⟩
      subst q
      rw [hj] at hi
      injection hi with hi
      subst hi
      rw [hx0] at hk
      exact (tv_inj hk).symm
  · obtain ⟨hf, hno⟩ := h.find_not he
    refine ⟨setU w b (.map es clock), ?_, ⟨_, _, setU_at _ h.at_, h.st, fun x hx => ?_, fun a ha => h.key a ha.2⟩, setU_but _ _ _⟩
    · simp [setU, Builtin.delete_, run_underlying Try.underlying65, MapKept.run_getObj_map h.at_, check_tu t w, hf, MapKept.run_setObj_map _ h.at_, Result.andThen]
    · obtain ⟨a, ha, hk, hv⟩ := h.ent x hx
      exact ⟨a, ⟨fun q => he (q ▸ ha), ha⟩, hk, hv⟩
end
end Go.Proofs.Ytnhlbohdlnjaaaa
