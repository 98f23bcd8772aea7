/-
  Maps from doors (a protocol and a port) to forwards: how the run makes one, looks up, puts in, counts.
-/
import Derived.Test.YtknmpfdmjfbpdaaFwRow
import Derived.Test.YtknmpfdmjfbpdaaMapU
import Derived.WideKeyRuns
namespace Go.Proofs.Ytknmpfdmjfbpdaa
set_option maxRecDepth 10000
open Go.RowKit
set_option linter.unusedSimpArgs false
set_option linter.unusedVariables false

def dv (d : Int × Int) : Value := .agg #[.int .u8 d.1, .int .u16 d.2]
def fwA (f : Fw) : Value := .agg #[.int .u8 f.pr, .int .u16 f.po, .int .u32 f.ad, .int .u16 f.tp]
theorem dv_inj {a b : Int × Int} (h : dv a = dv b) : a = b := by
  obtain ⟨a1, a2⟩ := a
  obtain ⟨b1, b2⟩ := b
  unfold dv at h
  simp at h
  simp [h]
theorem door_eql (a b : Int × Int) (w : World) : (binOp .eql 64 (dv a) (dv b)).run Try.prog w = .ok (.bool (decide (a = b))) w := by
  unfold dv
  rw [run_eql_struct, run_equalIn_struct w 9999 64 _ _ (by kernel_rfl) (by kernel_rfl)]
  obtain ⟨a1, a2⟩ := a
  obtain ⟨b1, b2⟩ := b
  go_simp
  repeat' split
  all_goals simp_all
theorem equal_door (a b : Int × Int) (w : World) : (Op.equal 64 (dv a) (dv b)).run Try.prog w = .ok (decide (a = b)) w := by
  have h := door_eql a b w
  simp only [binOp] at h
  have h2 : ((Op.equal 64 (dv a) (dv b)) >>= fun x => pure (Value.bool x)).run Try.prog w = .ok (.bool (decide (a = b))) w := h
  rw [Sem.run_bind] at h2
  cases hq : (Op.equal 64 (dv a) (dv b)).run Try.prog w with
  | halt _ _ => rw [hq] at h2; simp [Result.andThen] at h2
  | ok x w1 =>
    rw [hq] at h2
    simp [Result.andThen] at h2
    rw [h2.2]
    congr 1
    have h3 := h2.1
    cases x <;> simp_all
theorem wide_door : (match Try.prog.underlying 64 with | some (.array _ _) | some (.struct _) => true | _ => false) = true := by kernel_rfl
theorem check_door (t : Int × Int) (w : World) (e : Bool) : (Instr.checkKey e 10000 64 (dv t)).run Try.prog w = .ok () w := by
  unfold dv
  obtain ⟨n, hn⟩ : ∃ n : Nat, 10000 = n + 1 + 1 := ⟨9998, rfl⟩
  rw [hn]
  clear hn
  simp [Instr.checkKey, run_underlying Try.underlying64, run_underlying Try.underlying5, run_underlying Try.underlying23, part, go_sem, Result.andThen]
theorem stays_door (t : Int × Int) (w : World) : (Instr.keyThatStays (dv t) (dv t)).run Try.prog w = .ok (dv t) w := by
  unfold dv
  rw [Instr.keyThatStays]
  obtain ⟨n, hn⟩ : ∃ n : Nat, 10000 = n + 1 + 1 := ⟨9998, rfl⟩
  rw [hn]
  clear hn
  simp [Instr.sameBits]
/-- Block b is a map of N entries: their keys are those of K; R tells what stands at each. -/
structure MDN (w : World) (b : Nat) (N : Nat) (K : Int × Int → Prop) (R : Int × Int → Fw) (es : Array MapEntry) (clock : Nat) : Prop where
  at_ : w.heap[b]? = some (.map es clock)
  st : MapKept.Stamped es clock
  num : es.size = N
  ent : ∀ x ∈ es.toList, ∃ e, K e ∧ x.key = dv e ∧ x.val = fwA (R e)
  key : ∀ e, K e → ∃ x ∈ es.toList, x.key = dv e
def MDP (w : World) (b : Nat) (N : Nat) (K : Int × Int → Prop) (R : Int × Int → Fw) : Prop := ∃ es clock, MDN w b N K R es clock
theorem MDP.lt {w : World} {b N : Nat} {K : Int × Int → Prop} {R : Int × Int → Fw} (h : MDP w b N K R) : b < w.heap.size := by
  obtain ⟨es, clock, h⟩ := h
  exact lt_of_block h.at_
theorem MDP.but {S : Nat → Prop} {w w' : World} {b N : Nat} {K : Int × Int → Prop} {R : Int × Int → Fw} (h : MDP w b N K R) (hb : But S w w') (hn : ¬ S b) : MDP w' b N K R := by
  obtain ⟨es, clock, h⟩ := h
  exact ⟨es, clock, hb.blk h.at_ hn, h.st, h.num, h.ent, h.key⟩
theorem MDP.below {w w' : World} {b N : Nat} {K : Int × Int → Prop} {R : Int × Int → Fw} (h : MDP w b N K R) (hb : Below w.heap.size w w') : MDP w' b N K R :=
  h.but (S := fun _ => False) (But.of hb) (fun h => h)
theorem MDP.congr {w : World} {b N : Nat} {K K' : Int × Int → Prop} {R R' : Int × Int → Fw} (h : MDP w b N K R) (hK : ∀ e, K e ↔ K' e) (hR : ∀ e, K e → R e = R' e) : MDP w b N K' R' := by
  obtain ⟨es, clock, hg, hs, hnum, h1, h2⟩ := h
  exact ⟨es, clock, hg, hs, hnum, fun x hx => by obtain ⟨e, he, hk, hv⟩ := h1 x hx; exact ⟨e, (hK e).1 he, hk, by rw [hv, hR e he]⟩, fun e he => h2 e ((hK e).2 he)⟩
theorem MDP.made (w : World) (R : Int × Int → Fw) (g : Nat) (hg : w.heap.size = g) : MDP (w.alloc (.map #[] 0)) g 0 (fun _ => False) R := by
  subst hg
  exact ⟨#[], 0, heap_alloc_new w _, MapKept.stamped_empty 0, rfl, fun x hx => by simp at hx, fun e he => he.elim⟩
theorem asking_door (e : Int × Int) (w : World) : ∀ (l : List MapEntry) (i : Nat), (∀ x ∈ l, ∃ t, x.key = dv t) →
    ((Instr.findAsking 64 (dv e) l i).run Try.prog w = .ok none w ∧ ∀ x ∈ l, x.key ≠ dv e) ∨ ∃ j x, (Instr.findAsking 64 (dv e) l i).run Try.prog w = .ok (some (i + j, x.val)) w ∧ l[j]? = some x ∧ x.key = dv e
  | [], _, _ => .inl ⟨rfl, by simp⟩
  | x :: l, i, h => by
    obtain ⟨t, ht⟩ := h x (.head _)
    have heq := equal_door e t w
    by_cases hq : e = t
    · subst hq
      rw [decide_eq_true rfl] at heq
      exact .inr ⟨0, x, by simp [Instr.findAsking, ht, heq, Result.andThen], rfl, ht⟩
    · rw [decide_eq_false hq] at heq
      have hne : x.key ≠ dv e := fun q => hq (dv_inj (q.symm.trans ht))
      rcases asking_door e w l (i + 1) (fun y hy => h y (.tail _ hy)) with ⟨h1, h2⟩ | ⟨j, y, h1, h2, h3⟩
      · exact .inl ⟨by simp [Instr.findAsking, ht, heq, Result.andThen, h1], fun y hy => by
          cases hy with
          | head => exact hne
          | tail _ hy => exact h2 y hy⟩
      · exact .inr ⟨j + 1, y, by simp [Instr.findAsking, ht, heq, Result.andThen, h1]; omega, by simpa using h2, h3⟩
section
variable {w : World} {b N : Nat} {K : Int × Int → Prop} {R : Int × Int → Fw} {es : Array MapEntry} {clock : Nat} {e : Int × Int}
theorem MDN.find_in (h : MDN w b N K R es clock) (he : K e) : ∃ j x, (Instr.findKey 64 (dv e) es.toList).run Try.prog w = .ok (some (j, fwA (R e))) w ∧ es.toList[j]? = some x ∧ x.key = dv e := by
  rw [run_findKey_eq w wide_door]
  rcases asking_door e w es.toList 0 (fun x hx => by obtain ⟨t, _, hk, _⟩ := h.ent x hx; exact ⟨t, hk⟩) with ⟨_, hf⟩ | ⟨j, x, hf, hj, hx⟩
  · obtain ⟨x, hx, hxe⟩ := h.key e he
    exact absurd hxe (hf x hx)
  · obtain ⟨e', _, hk', hv⟩ := h.ent x (List.mem_of_getElem? hj)
    have := dv_inj (hx.symm.trans hk')
    subst this
    exact ⟨j, x, by rw [hf, hv, Nat.zero_add], hj, hx⟩
theorem MDN.find_not (h : MDN w b N K R es clock) (he : ¬ K e) : (Instr.findKey 64 (dv e) es.toList).run Try.prog w = .ok none w ∧ ∀ x ∈ es.toList, x.key ≠ dv e := by
  rw [run_findKey_eq w wide_door]
  rcases asking_door e w es.toList 0 (fun x hx => by obtain ⟨t, _, hk, _⟩ := h.ent x hx; exact ⟨t, hk⟩) with ⟨hf, hn⟩ | ⟨j, x, _, hj, hx⟩
  · exact ⟨hf, hn⟩
  · obtain ⟨e', hK, hk', _⟩ := h.ent x (List.mem_of_getElem? hj)
    have := dv_inj (hx.symm.trans hk')
    subst this
    exact absurd hK he
end
theorem info_tfw : (Try.prog.info? 40).map (fun i => (i.zero, i.size, i.bytes)) = some (some (.agg #[.int .u8 0, .int .u16 0, .int .u32 0, .int .u16 0]), 4, 12) := by kernel_rfl
theorem zero_fw (w : World) : (zeroValue 40).run Try.prog w = .ok (.agg #[.int .u8 0, .int .u16 0, .int .u32 0, .int .u16 0]) w := by
  have h := info_tfw
  cases hi : Try.prog.info? 40 with
  | none => rw [hi] at h; simp at h
  | some i =>
    rw [hi] at h
    simp at h
    simp [zeroValue, typeInfo, hi, h, go_sem]
section
variable {w : World} {b N : Nat} {K : Int × Int → Prop} {R : Int × Int → Fw} {p q : Int} {f : Fw}
theorem MDP.look (h : MDP w b N K R) (he : K (p, q)) (hR : R (p, q) = f) : (Instr.lookup 58 (.map (some b)) (.agg #[.int .u8 p, .int .u16 q]) true).run Try.prog w = .ok (.tuple #[.agg #[.int .u8 f.pr, .int .u16 f.po, .int .u32 f.ad, .int .u16 f.tp], .bool true]) w := by
  obtain ⟨es, clock, h⟩ := h
  obtain ⟨j, x, hf, _, _⟩ := h.find_in he
  rw [hR] at hf
  show (Instr.lookup _ _ (dv (p, q)) _).run _ _ = .ok (.tuple #[fwA f, _]) _
  simp [Instr.lookup, run_underlying Try.underlying58, MapKept.run_getObj_map h.at_, check_door (p, q) w, hf, Result.andThen]
theorem MDP.lookno (h : MDP w b N K R) (he : ¬ K (p, q)) : (Instr.lookup 58 (.map (some b)) (.agg #[.int .u8 p, .int .u16 q]) true).run Try.prog w = .ok (.tuple #[.agg #[.int .u8 0, .int .u16 0, .int .u32 0, .int .u16 0], .bool false]) w := by
  obtain ⟨es, clock, h⟩ := h
  obtain ⟨hf, _⟩ := h.find_not he
  show (Instr.lookup _ _ (dv (p, q)) _).run _ _ = _
  simp [Instr.lookup, run_underlying Try.underlying58, MapKept.run_getObj_map h.at_, check_door (p, q) w, hf, zero_fw, Result.andThen]
theorem MDP.len (h : MDP w b N K R) (ty : TypeId) : (Builtin.len_ #[58] ty #[.map (some b)]).run Try.prog w = .ok (.int .i64 (N : Nat)) w := by
  obtain ⟨es, clock, h⟩ := h
  have := h.num
  subst this
  simp [Builtin.len_, run_underlying Try.underlying58, MapKept.run_getObj_map h.at_, Result.andThen, goInt]
theorem MDP.put (h : MDP w b N K R) (p q : Int) (f : Fw) : ∃ w' N', (Instr.mapUpdate 58 (.map (some b)) (.agg #[.int .u8 p, .int .u16 q]) (.agg #[.int .u8 f.pr, .int .u16 f.po, .int .u32 f.ad, .int .u16 f.tp])).run Try.prog w = .ok () w' ∧ MDP w' b N' (fun a => a = (p, q) ∨ K a) (fun a => if a = (p, q) then f else R a) ∧ (K (p, q) → N' = N) ∧ (¬ K (p, q) → N' = N + 1) ∧ But (fun g => g = b) w w' := by
  obtain ⟨es, clock, h⟩ := h
  obtain ⟨t, et⟩ : ∃ t, (p, q) = t := ⟨_, rfl⟩
  show ∃ w' N', (Instr.mapUpdate _ _ (dv (p, q)) (fwA f)).run _ _ = _ ∧ _
  rw [et]
  by_cases he : K t
  · obtain ⟨j, x0, hf, hj, hx0⟩ := h.find_in he
    have hj' : es[j]? = some x0 := by rw [← hj]; simp
    have hs := h.st
    have hkeys : (es.modify j fun q => { q with key := dv t, val := fwA f }).toList.map (·.key) = es.toList.map (·.key) := MapKept.modify_keys j _ (fun q hq => by rw [hj'] at hq; injection hq with hq; subst hq; exact hx0.symm)
    refine ⟨setU w b (.map (es.modify j fun q => { q with key := dv t, val := fwA f }) clock), N, ?_, ⟨_, _, setU_at _ h.at_, MapKept.stamped_modify hs j _ (fun _ _ => rfl) (fun q _ hq => by rw [hj'] at hq; injection hq with hq; subst hq; exact hx0.symm), by simp [h.num], fun x hx => ?_, fun a ha => ?_⟩, fun _ => rfl, fun h => absurd he h, setU_but _ _ _⟩
    · simp [setU, Instr.mapUpdate, run_underlying Try.underlying58, MapKept.run_getObj_map h.at_, check_door t w, hf, MapKept.run_setObj_map _ h.at_, hj', hx0, stays_door t w, Result.andThen]
    · obtain ⟨i, hi⟩ := List.getElem?_of_mem hx
      rw [Array.getElem?_toList, Array.getElem?_modify] at hi
      by_cases hij : j = i
      · subst hij
        rw [if_pos rfl, hj'] at hi
        injection hi with hi
        subst hi
        exact ⟨t, .inl rfl, rfl, by simp⟩
      · rw [if_neg hij] at hi
        have hm : x ∈ es.toList := by rw [← Array.getElem?_toList] at hi; exact List.mem_of_getElem? hi
        obtain ⟨a, ha, hk, hv⟩ := h.ent x hm
        refine ⟨a, .inr ha, hk, ?_⟩
        try simp only
        rw [if_neg]
        · exact hv
        · rintro rfl
          have hnd := hs.2.2
          rw [← Array.getElem?_toList] at hi
          have e1 : (es.toList.map (·.key))[j]? = some (dv a) := by rw [List.getElem?_map, hj]; simp [hx0]
          have e2 : (es.toList.map (·.key))[i]? = some (dv a) := by rw [List.getElem?_map, hi]; simp [hk]
          have hjl := (List.getElem?_eq_some_iff.1 e1).1
          exact hij ((List.getElem?_inj hjl hnd).1 (e1.trans e2.symm))
    · have ha' : K a := by rcases ha with rfl | ha; exact he; exact ha
      obtain ⟨x, hx, hk⟩ := h.key a ha'
      have : (dv a) ∈ (es.modify j fun q => { q with key := dv t, val := fwA f }).toList.map (·.key) := by rw [hkeys]; exact List.mem_map.2 ⟨x, hx, hk⟩
      obtain ⟨y, hy, hyk⟩ := List.mem_map.1 this
      exact ⟨y, hy, hyk⟩
  · obtain ⟨hf, hno⟩ := h.find_not he
    refine ⟨setU w b (.map (es.push ⟨dv t, fwA f, clock⟩) (clock + 1)), N + 1, ?_, ⟨_, _, setU_at _ h.at_, MapKept.stamped_push h.st hno, by simp [h.num], fun x hx => ?_, fun a ha => ?_⟩, fun h => absurd h he, fun _ => rfl, setU_but _ _ _⟩
    · simp [setU, Instr.mapUpdate, run_underlying Try.underlying58, MapKept.run_getObj_map h.at_, check_door t w, hf, MapKept.run_setObj_map _ h.at_, Result.andThen]
    · simp only [Array.toList_push, List.mem_append, List.mem_singleton] at hx
      rcases hx with hx | rfl
      · obtain ⟨a, ha, hk, hv⟩ := h.ent x hx
        exact ⟨a, .inr ha, hk, by rw [if_neg (fun q : a = t => he (q ▸ ha))]; exact hv⟩
      · exact ⟨t, .inl rfl, rfl, by simp⟩
    · rcases ha with rfl | ha
      · exact ⟨⟨dv a, fwA f, clock⟩, by simp, rfl⟩
      · obtain ⟨x, hx, hk⟩ := h.key a ha
        exact ⟨x, by simp only [Array.toList_push, List.mem_append]; exact .inl hx, hk⟩
end
theorem run_makeMap_fw (w : World) (n : Int) : (Instr.makeMap 58 (some (.int .i64 n))).run Try.prog w = .ok (.map (some w.heap.size)) (w.alloc (.map #[] 0)) := by
  simp [Instr.makeMap, run_underlying Try.underlying58, asInt, asIntOf, Result.andThen]
end Go.Proofs.Ytknmpfdmjfbpdaa
