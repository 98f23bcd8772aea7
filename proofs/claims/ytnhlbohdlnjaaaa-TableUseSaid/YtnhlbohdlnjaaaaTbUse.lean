/-
  The order of use, plainly: one flow is touched again and again, others come; slices of uint64 read at their head, cut behind it.
-/
import Derived.Test.YtnhlbohdlnjaaaaTbLL
import Derived.Test.YtnhlbohdlnjaaaaTbZ
import Derived.Lib.SliceRun
namespace Go.Proofs.Ytnhlbohdlnjaaaa
set_option maxRecDepth 10000
open Go.RowKit
set_option linter.unusedSimpArgs false
set_option linter.unusedVariables false

structure UseOk (n i : Int) (keep : Int) (A C : TL) (K : Fl) : Prop where
  id : K.id = keep
  len : ((A.length + C.length + 1 : Nat) : Int) = n
  fl : ∀ f, f ∈ A ++ K :: C → f.em = true ∧ (1 ≤ f.id ∧ f.id ≤ n + i) ∧ f.i = ofT f.id ∧ ∃ c, f.o = ofT c ∧ 0 ≤ c ∧ c ≤ i
theorem use_touch {M last : Int} {keep : Int} {A C : TL} {K : Fl} (hk : K.id = keep) (h : okF M last (A ++ K :: C)) : touchR keep (A ++ K :: C) = (0, A ++ C ++ [K]) := by
  have hg : ∀ j, j < A.length → (A ++ K :: C).getD j f0 = A.getD j f0 := fun j hj => by simp [List.getD, List.getElem?_append_left hj]
  have hK : (A ++ K :: C).getD A.length f0 = K := by simp [List.getD]
  have hlen : A.length < (A ++ K :: C).length := by simp
  have hat : atF keep (A ++ K :: C) = some A.length := by
    refine (find_at (p := fun f => decide (f.id = keep)) hlen ?_ (fun j hj => ?_)).1
    · rw [hK]; simp [hk]
    · have := (pw_at h.pw (a := j) (b := A.length) (by omega) hlen (by omega)).id
      rw [hK, hk] at this
      simpa using this
  unfold touchR
  rw [hat]
  simp only
  unfold touchF
  rw [hK, List.eraseIdx_append_of_length_le (Nat.le_refl _), Nat.sub_self]
  rfl
theorem use_flow {M last : Int} {keep : Int} {A C : TL} {K : Fl} (hk : K.id = keep) (h : okF M last (A ++ K :: C)) : flowR keep (A ++ K :: C) = (K, true) := by
  have hK : (A ++ K :: C).getD A.length f0 = K := by simp [List.getD]
  have hlen : A.length < (A ++ K :: C).length := by simp
  have hat : atF keep (A ++ K :: C) = some A.length := by
    refine (find_at (p := fun f => decide (f.id = keep)) hlen ?_ (fun j hj => ?_)).1
    · rw [hK]; simp [hk]
    · have := (pw_at h.pw (a := j) (b := A.length) (by omega) hlen (by omega)).id
      rw [hK, hk] at this
      simpa using this
  unfold flowR
  rw [hat]
  simp only
  rw [hK]
theorem use_add {M last n i : Int} {keep : Int} {A C t : TL} {K hd : Fl} (h : UseOk n i keep A C K) (ho : okF M last (A ++ K :: C)) (hM : M = n) (hl : last = n + i) (hi : 0 ≤ i) (ht : A ++ C = hd :: t) :
    addF M last (ofT (n + i + 1)) (ofT (i + 1)) (A ++ C ++ [K]) = ((n + i + 1, hd.id, 0), t ++ [K] ++ [⟨n + i + 1, ofT (n + i + 1), ofT (i + 1), true⟩], n + i + 1) := by
  subst hM; subst hl
  have hmem : ∀ f, f ∈ A ++ C ++ [K] ↔ f ∈ A ++ K :: C := fun f => by
    simp only [List.mem_append, List.mem_cons, List.not_mem_nil, or_false]
    constructor
    · rintro ((h | h) | h)
      · exact .inl h
      · exact .inr (.inr h)
      · exact .inr (.inl h)
    · rintro (h | h | h)
      · exact .inl (.inl h)
      · exact .inr h
      · exact .inl (.inr h)
  unfold addF
  have hin : innF (ofT (M + i + 1)) (A ++ C ++ [K]) = none := by
    refine List.find?_eq_none.2 (fun f hf => ?_)
    obtain ⟨_, h2, h3, _⟩ := h.fl f ((hmem f).1 hf)
    have : ¬ f.i = ofT (M + i + 1) := fun e => by rw [h3, ofT_inj] at e; omega
    simpa using this
  have hout : outF (ofT (i + 1)) (A ++ C ++ [K]) = none := by
    unfold outF
    rw [if_neg (fun e => by rw [ofT_zero] at e; omega)]
    refine List.find?_eq_none.2 (fun f hf => ?_)
    obtain ⟨_, _, _, c, h4, h5, h6⟩ := h.fl f ((hmem f).1 hf)
    have : ¬ f.o = ofT (i + 1) := fun e => by rw [h4, ofT_inj] at e; omega
    simpa using this
  have hlen := h.len
  have hfull : ¬ ((A ++ C ++ [K]).length : Int) < M := by simp only [List.length_append, List.length_cons, List.length_nil]; omega
  have hno : ¬ (isOf none = true ∨ isOf none = true) := by simp [isOf]
  rw [if_neg (fun e => by rw [ofT_zero] at e; have := ho.mb; omega), hin, hout, if_neg hno, if_neg hfull]
  have hem : emF (A ++ C ++ [K]) = some 0 := by
    rw [ht]
    have : hd.em = true := (h.fl hd ((hmem hd).1 (by rw [ht]; simp))).1
    simp [emF, List.findIdx?_cons, this]
  rw [hem]
  simp only
  rw [ht]
  simp [List.getD]
theorem use_next {n i : Int} {keep : Int} {A C t : TL} {K hd : Fl} (h : UseOk n i keep A C K) (hi : 0 ≤ i) (hn : 1 ≤ n) (ht : A ++ C = hd :: t) : UseOk n (i + 1) keep t [⟨n + i + 1, ofT (n + i + 1), ofT (i + 1), true⟩] K := by
  refine ⟨h.id, ?_, fun f hf => ?_⟩
  · have h1 := h.len
    have h2 : A.length + C.length = t.length + 1 := by rw [← List.length_append, ht]; simp
    simp only [List.length_cons, List.length_nil]
    omega
  · have sub : f ∈ A ++ K :: C → f.em = true ∧ (1 ≤ f.id ∧ f.id ≤ n + (i + 1)) ∧ f.i = ofT f.id ∧ ∃ c, f.o = ofT c ∧ 0 ≤ c ∧ c ≤ i + 1 := fun hf => by
      obtain ⟨a, b, c, d, e, e1, e2⟩ := h.fl f hf
      exact ⟨a, by omega, c, d, e, e1, by omega⟩
    rcases List.mem_append.1 hf with hf | hf
    · refine sub ?_
      have : f ∈ A ++ C := by rw [ht]; exact List.mem_cons_of_mem _ hf
      rcases List.mem_append.1 this with h1 | h1
      · exact List.mem_append.2 (.inl h1)
      · exact List.mem_append.2 (.inr (List.mem_cons_of_mem _ h1))
    · rcases List.mem_cons.1 hf with rfl | hf
      · exact sub (by simp)
      · rw [List.mem_singleton] at hf
        subst hf
        exact ⟨rfl, ⟨show 1 ≤ n + i + 1 by omega, show n + i + 1 ≤ n + (i + 1) by omega⟩, rfl, _, rfl, by omega, by omega⟩
/-- Those that are not kept, by their ids. -/
def leftU (k j : Nat) : List Int := ((List.range j).filter (fun i => decide (i ≠ k))).map (fun (i : Nat) => (i : Int) + 1)
theorem leftU_succ (k j : Nat) : leftU k (j + 1) = leftU k j ++ (if j = k then [] else [(j : Int) + 1]) := by
  unfold leftU
  rw [List.range_succ, List.filter_append, List.map_append]
  by_cases e : j = k
  · simp [e]
  · simp [e]
theorem leftU_all {n k : Nat} (hk : k < n) (g : Nat → Tu) : ((LL n g).take k ++ (LL n g).drop (k + 1)).map Fl.id = leftU k n := by
  have e1 : LL n g = (LL n g).take k ++ (LL n g).getD k f0 :: (LL n g).drop (k + 1) := by
    have hk' : k < (LL n g).length := by rw [LL_len]; exact hk
    have : (LL n g).getD k f0 = (LL n g)[k] := by simp only [List.getD, List.getElem?_eq_getElem hk', Option.getD_some]
    rw [this, ← List.drop_eq_getElem_cons hk', List.take_append_drop]
  have e2 : leftU k n = ((LL n g).filter (fun f => decide (f.id ≠ (k : Int) + 1))).map Fl.id := by
    unfold leftU LL
    rw [List.filter_map, List.map_map]
    congr 1
    refine List.filter_congr (fun i _ => ?_)
    simp only [Function.comp]
    rw [Bool.eq_iff_iff]
    simp only [decide_eq_true_eq]
    omega
  rw [e2]
  conv => rhs; rw [e1]
  rw [List.filter_append, List.filter_cons, if_neg (by rw [LL_get g hk]; simp)]
  congr 1
  have hne : ∀ f, f ∈ (LL n g).take k ∨ f ∈ (LL n g).drop (k + 1) → f.id ≠ (k : Int) + 1 := fun f hf => by
    rcases hf with hf | hf
    · obtain ⟨j, hj⟩ := List.getElem?_of_mem hf
      obtain ⟨hjl, he⟩ := List.getElem?_eq_some_iff.1 hj
      rw [List.length_take, LL_len] at hjl
      rw [List.getElem?_take_of_lt (by omega)] at hj
      have := LL_get g (show j < n by omega)
      simp only [List.getD, hj, Option.getD_some] at this
      rw [this]
      show ¬ (j : Int) + 1 = (k : Int) + 1
      omega
    · obtain ⟨j, hj⟩ := List.getElem?_of_mem hf
      rw [List.getElem?_drop] at hj
      obtain ⟨hjl, he⟩ := List.getElem?_eq_some_iff.1 hj
      rw [LL_len] at hjl
      have := LL_get g hjl
      simp only [List.getD, hj, Option.getD_some] at this
      rw [this]
      show ¬ ((k + 1 + j : Nat) : Int) + 1 = (k : Int) + 1
      omega
  rw [List.filter_eq_self.2 (fun f hf => by have := hne f (.inl hf); simpa using this), List.filter_eq_self.2 (fun f hf => by have := hne f (.inr hf); simpa using this)]
theorem LL_mid {n k : Nat} (hk : k < n) (g : Nat → Tu) : LL n g = (LL n g).take k ++ (⟨(k : Int) + 1, ofT ((k : Int) + 1), g k, true⟩ : Fl) :: (LL n g).drop (k + 1) := by
  have hk' : k < (LL n g).length := by rw [LL_len]; exact hk
  have h1 := LL_get g hk
  have : (LL n g).getD k f0 = (LL n g)[k] := by simp only [List.getD, List.getElem?_eq_getElem hk', Option.getD_some]
  rw [← h1, this, ← List.drop_eq_getElem_cons hk', List.take_append_drop]
theorem use_begin {n k : Nat} (hk : k < n) : UseOk n 0 ((k : Int) + 1) ((LL n (fun _ => ofT 0)).take k) ((LL n (fun _ => ofT 0)).drop (k + 1)) ⟨(k : Int) + 1, ofT ((k : Int) + 1), ofT 0, true⟩ := by
  refine ⟨rfl, ?_, fun f hf => ?_⟩
  · rw [List.length_take, List.length_drop, LL_len]; omega
  · rw [← LL_mid hk (fun _ => ofT 0)] at hf
    obtain ⟨j, hj, rfl⟩ := LL_mem hf
    exact ⟨rfl, ⟨show (1 : Int) ≤ (j : Int) + 1 by omega, show (j : Int) + 1 ≤ (n : Int) + 0 by omega⟩, rfl, 0, rfl, by omega, by omega⟩
-- slices of uint64
theorem Sl.consU {w : World} {T : TypeId} {k : IntKind} {v : Value} {x : Int} {l : List Int} (h : Sl w T k v (x :: l)) : ∃ g o c, v = .slice (some ⟨g, o, none⟩) (l.length + 1) c ∧ Row w T k g o (x :: l) c := by
  rcases h with ⟨_, h⟩ | ⟨g, o, c, e, hr⟩
  · cases h
  · exact ⟨g, o, c, e, hr⟩
theorem info_u64t : (Try.prog.info? 32).map (fun i => (i.zero, i.size, i.bytes)) = some (some (.int .u64 0), 1, 8) := by kernel_rfl
theorem tail_runU {w : World} {g o c : Nat} {x : Int} {l : List Int} (h : Row w 32 .u64 g o (x :: l) c) :
    ∃ A2 c2, (∀ W : World, (Instr.slice 68 (.slice (some ⟨g, o, none⟩) (l.length + 1) c) (some (.int .i64 1)) none none).run Try.prog W = .ok (.slice A2 l.length c2) W) ∧ (Value.slice A2 l.length c2).ownBlock = some g ∧ Sl w 32 .u64 (.slice A2 l.length c2) l := by
  have hn : l.length + 1 ≤ c := by obtain ⟨_, _, _, hl, _⟩ := h; simpa using hl
  obtain ⟨i0, hi, hz0, hz1, hz2⟩ := info_parts info_u64t
  by_cases h1 : c = 1
  · subst h1
    have hl0 : l = [] := List.eq_nil_of_length_eq_zero (by omega)
    subst hl0
    refine ⟨some ⟨g, o, none⟩, 0, fun W => ?_, rfl, .inr ⟨g, o, 0, rfl, h.bare⟩⟩
    simp [Instr.slice, Instr.sliceBounds, Instr.sliceBound, run_underlying Try.underlying68, asIntOf, sizeOf, typeInfo, hi, hz1, Result.andThen]
  · refine ⟨some ⟨g, o + 1, none⟩, c - 1, fun W => ?_, rfl, .inr ⟨g, o + 1, c - 1, rfl, h.tail⟩⟩
    have h3 : (1 : Int) ≤ (l.length : Int) + 1 := by omega
    simp [Instr.slice, Instr.sliceBounds, Instr.sliceBound, run_underlying Try.underlying68, asIntOf, sizeOf, typeInfo, hi, hz1, h1, h3, Go.WideShapes.add_plain, Result.andThen]
/-- A literal of one number behind a slice of numbers. -/
theorem u64_app {w : World} {A : Option Addr} {n c : Nat} {l : List Int} (h : Sl w 32 .u64 (.slice A n c) l) (x : Int) {q : Nat} (hq : w.heap.size = q) (hl : l.length ≤ 1000000) :
    ∃ A2 n2 c2 w2, (Builtin.append_ #[68, 68] 68 #[.slice A n c, .slice (some ⟨q, 0, none⟩) 1 1]).run Try.prog (w.alloc (.cells #[.int .u64 x] 32)) = .ok (.slice A2 n2 c2) w2 ∧ Sl w2 32 .u64 (.slice A2 n2 c2) (l ++ [x]) ∧
      But (fun k => (Value.slice A n c).ownBlock = some k) w w2 ∧ ((Value.slice A2 n2 c2).ownBlock = (Value.slice A n c).ownBlock ∨ ∃ b, (Value.slice A2 n2 c2).ownBlock = some b ∧ w.heap.size ≤ b ∧ b < w2.heap.size) := by
  have hb : But (fun _ => False) w (w.alloc (.cells #[.int .u64 x] 32)) := (But.refl _ _).alloc _
  obtain ⟨v', w2, hr, h3, h4, h5, h6, _⟩ := sl_app (P := Try.prog) (w.alloc (.cells #[.int .u64 x] 32)) 68 68 32 .u64 8 Try.underlying68 info_u64t (by omega) _ _ l [x] (h.but hb (fun _ _ h => h)) (Row.one 32 .u64 x q hq) (by simp; omega)
  obtain ⟨A2, c2, rfl, _⟩ := h3.form
  refine ⟨A2, _, c2, w2, hr, h3, (hb.mono (fun _ _ h => h.elim)).trans h4, ?_⟩
  rcases h5 with e | e
  · exact .inl e
  · refine .inr ⟨_, e, by simp, h3.lt e⟩
end Go.Proofs.Ytnhlbohdlnjaaaa
