/-
  A copy of a pool while its map is filled, entry by entry, in whatever order.
-/
import Derived.Test.YtlifldionfoddaaPoolClone
import Derived.Maps.RangeRun
namespace Go.Proofs.Ytlifldionfoddaa
set_option maxRecDepth 10000
open Go.RowKit
open Go.ChangeMaps (setBlock)
set_option linter.unusedSimpArgs false
set_option linter.unusedVariables false

theorem ne_of_obj {w : World} {b b' : Nat} {o o' : Obj} (h : w.heap[b]? = some o) (h' : w.heap[b']? = some o') (hne : o ≠ o') : b ≠ b' := by
  rintro rfl
  rw [h] at h'
  injection h' with h'
  exact hne h'
theorem sl_row0 {w : World} {T : TypeId} {k : IntKind} {A : Option Addr} {n c : Nat} {l : List Int} (h : Sl w T k (.slice A n c) l) (h0 : At0 (.slice A n c)) (hl : l ≠ []) : ∃ g, A = some ⟨g, 0, none⟩ ∧ n = l.length ∧ Row w T k g 0 l c := by
  rcases h with ⟨_, h⟩ | ⟨g, o, c', e, hr⟩
  · exact absurd h hl
  · injection e with e1 e2 e3
    subst e1; subst e2; subst e3
    have := h0 g o _ _ rfl
    subst this
    exact ⟨g, rfl, rfl, hr⟩
def DoneE (es : Array MapEntry) (seen : Array Nat) (e : Int) : Prop := ∃ x ∈ es.toList, x.key = .int .u64 e ∧ seen.contains x.born = true
structure CopyAt (w0 wr : World) (gc gp cp gm r g0 : Nat) (vE : Value) (R : Int → Value) (q : PS) (es : Array MapEntry) (clock : Nat) (seen : Array Nat) : Prop where
  bel : Below w0.heap.size w0 wr
  box : wr.heap[gc]? = some (.cells (poolC gc q gp cp gm vE) 52 (0, 0))
  row : Row wr 53 .u8 gp 0 q.st cp
  ends : Sl wr 23 .u64 vE (q.L.map Prod.fst)
  map : MapIs wr gm (DoneE es seen) R
  it : wr.heap[r]? = some (.mapIter (some g0) clock seen clock)
  rows : ∀ e ps, (e, ps) ∈ q.L → DoneE es seen e → Sl wr 22 .u16 (R e) (portsOf q.lo ps)
  apart : ∀ e e' b, DoneE es seen e → DoneE es seen e' → (R e).ownBlock = some b → (R e').ownBlock = some b → e = e'
  low : w0.heap.size ≤ gc ∧ w0.heap.size ≤ gp ∧ w0.heap.size ≤ gm ∧ w0.heap.size ≤ r
  lowE : ∀ b, vE.ownBlock = some b → w0.heap.size ≤ b
  lowR : ∀ e b, DoneE es seen e → (R e).ownBlock = some b → w0.heap.size ≤ b
theorem done_push {es : Array MapEntry} {clock : Nat} (hs : MapKept.Stamped es clock) {seen : Array Nat} {x : MapEntry} (hx : x ∈ es.toList) {e : Int} (he : x.key = .int .u64 e) (a : Int) : DoneE es (seen.push x.born) a ↔ a = e ∨ DoneE es seen a := by
  constructor
  · rintro ⟨y, hy, hk, hb⟩
    rw [contains_push] at hb
    rcases Bool.or_eq_true _ _ ▸ hb with h | h
    · exact .inr ⟨y, hy, hk, h⟩
    · have := born_inj hs.2.1 hy hx (by simpa using h)
      subst this
      rw [hk] at he
      injection he with _ he
      exact .inl he
  · rintro (rfl | ⟨y, hy, hk, hb⟩)
    · exact ⟨x, hx, he, by rw [contains_push]; simp⟩
    · exact ⟨y, hy, hk, by rw [contains_push, hb]; rfl⟩
theorem key_inj {es : Array MapEntry} {clock : Nat} (hs : MapKept.Stamped es clock) {x y : MapEntry} (hx : x ∈ es.toList) (hy : y ∈ es.toList) (h : x.key = y.key) : x = y := by
  obtain ⟨i, hi⟩ := List.getElem?_of_mem hx
  obtain ⟨j, hj⟩ := List.getElem?_of_mem hy
  have e1 : (es.toList.map (·.key))[i]? = some x.key := by rw [List.getElem?_map, hi]; rfl
  have e2 : (es.toList.map (·.key))[j]? = some x.key := by rw [List.getElem?_map, hj, h]; rfl
  have hil := (List.getElem?_eq_some_iff.1 e1).1
  have := (List.getElem?_inj hil hs.2.2).1 (e1.trans e2.symm)
  subst this
  rw [hi] at hj
  injection hj
theorem not_done {es : Array MapEntry} {clock : Nat} (hs : MapKept.Stamped es clock) {seen : Array Nat} {x : MapEntry} (hx : x ∈ es.toList) {e : Int} (he : x.key = .int .u64 e) (hb : seen.contains x.born = false) : ¬ DoneE es seen e := by
  rintro ⟨y, hy, hk, h⟩
  have := key_inj hs hy hx (hk.trans he.symm)
  subst this
  rw [hb] at h
  cases h
variable {w0 wr wn w5 w6 : World} {gc gp cp gm r g0 : Nat} {vE : Value} {R : Int → Value} {q : PS} {es : Array MapEntry} {clock : Nat} {seen : Array Nat}
/-- Every entry has been copied. -/
theorem CopyAt.done (h : CopyAt w0 wr gc gp cp gm r g0 vE R q es clock seen) (hall : (leftOf es seen).size = 0) (h1 : ∀ x ∈ es.toList, ∃ e, (∃ ps, (e, ps) ∈ q.L) ∧ x.key = .int .u64 e) (h2 : ∀ e, (∃ ps, (e, ps) ∈ q.L) → ∃ x ∈ es.toList, x.key = .int .u64 e) :
    MemAt wr (fun k => w0.heap.size ≤ k ∧ k < wr.heap.size) gc gp cp gm vE R q := by
  have hd : ∀ e, DoneE es seen e ↔ ∃ ps, (e, ps) ∈ q.L := by
    intro e
    constructor
    · rintro ⟨x, hx, hk, _⟩
      obtain ⟨e', hp, hk'⟩ := h1 x hx
      rw [hk] at hk'
      injection hk' with _ hk'
      rw [hk']; exact hp
    · intro hp
      obtain ⟨x, hx, hk⟩ := h2 e hp
      exact ⟨x, hx, hk, all_seen es seen hall x hx⟩
  have hl := h.low
  refine ⟨h.box, h.row, h.map.congr hd (fun _ _ => rfl), h.ends, fun e ps hm => h.rows e ps hm ((hd e).2 ⟨ps, hm⟩), fun e ps e' ps' b hm hm' => h.apart e e' b ((hd e).2 ⟨ps, hm⟩) ((hd e').2 ⟨ps', hm'⟩), ⟨hl.1, lt_of_block h.box⟩, ⟨hl.2.1, h.row.lt⟩, ⟨hl.2.2.1, h.map.lt⟩, fun b hb => ⟨h.lowE b hb, h.ends.lt hb⟩, fun e ps b hm hb => ⟨h.lowR e b ((hd e).2 ⟨ps, hm⟩) hb, (h.rows e ps hm ((hd e).2 ⟨ps, hm⟩)).lt hb⟩, fun k hk => hk.2⟩
/-- One entry more. -/
theorem CopyAt.step (h : CopyAt w0 wr gc gp cp gm r g0 vE R q es clock seen) (hs : MapKept.Stamped es clock) {x : MapEntry} (hx : x ∈ es.toList) (hxb : seen.contains x.born = false) {e : Int} {ps : List Nat} (he : x.key = .int .u64 e) (hm : (e, ps) ∈ q.L) (hK : ∀ a, DoneE es seen a → ∃ ps, (a, ps) ∈ q.L) (hu : ∀ ps', (e, ps') ∈ q.L → ps' = ps)
    (hn : But (fun k => k = r) wr wn) (hit : wn.heap[r]? = some (.mapIter (some g0) clock (seen.push x.born) clock)) (h5 : Below wn.heap.size wn w5) {V : Value} (hV : Sl w5 22 .u16 V (portsOf q.lo ps)) (hVb : ∀ b, V.ownBlock = some b → wn.heap.size ≤ b)
    (hm6 : MapIs w6 gm (fun a => a = e ∨ DoneE es seen a) (fun a => if a = e then V else R a)) (h6 : But (fun k => k = gm) w5 w6) :
    CopyAt w0 w6 gc gp cp gm r g0 vE (fun a => if a = e then V else R a) q es clock (seen.push x.born) := by
  have hnd := not_done hs hx he hxb
  have hdp := fun a => done_push (seen := seen) hs hx he a
  have b5 : But (fun k => k = r) wr w5 := hn.trans (But.of h5)
  have b6 : But (fun k => k = r ∨ k = gm) wr w6 := (b5.mono (fun k _ hk => .inl hk)).trans (h6.mono (fun k _ hk => .inr hk))
  have hl := h.low
  obtain ⟨es', cl', hgm', _⟩ := id h.map
  have hcell : ∀ {b : Nat} {C : Array Value} {T : TypeId} {fr : Nat × Nat}, wr.heap[b]? = some (.cells C T fr) → ¬ (b = r ∨ b = gm) := by
    intro b C T fr hb hk
    rcases hk with rfl | rfl
    · have := h.it
      rw [hb] at this
      cases this
    · rw [hb] at hgm'
      cases hgm'
  have hrgm : r ≠ gm := ne_of_obj h.it hgm' (by simp)
  have hnsz := hn.size
  have hbel := h.bel
  refine ⟨?_, b6.blk h.box (hcell h.box), ?_, ?_, hm6.congr (fun a => (hdp a).symm) (fun _ _ => rfl), ?_, fun a ps' ha hd => ?_, fun a a' b hd hd' e1 e2 => ?_, hl, h.lowE, fun a b hd hb => ?_⟩
  · exact hbel.trans (b6.below (fun k hk => by rcases hk with rfl | rfl; exact hl.2.2.2; exact hl.2.2.1) hbel.size)
  · obtain ⟨C, hC, _⟩ := h.row
    exact h.row.but b6 (hcell hC)
  · refine h.ends.but b6 (fun b hb => ?_)
    obtain ⟨C, hC⟩ := h.ends.type hb
    exact hcell hC
  · have h5' := blk_on hit h5
    exact h6.blk h5' hrgm
  · by_cases hae : a = e
    · subst hae
      rw [if_pos rfl, hu ps' ha]
      refine hV.but h6 (fun b hb => ?_)
      rintro rfl
      obtain ⟨C, hC⟩ := hV.type hb
      have := hVb b hb
      have h3 := lt_of_block hgm'
      omega
    · rw [if_neg hae]
      have hd' : DoneE es seen a := by
        rcases (hdp a).1 hd with h1 | h1
        · exact absurd h1 hae
        · exact h1
      refine (h.rows a ps' ha hd').but b6 (fun b hb => ?_)
      obtain ⟨C, hC⟩ := (h.rows a ps' ha hd').type hb
      exact hcell hC
  · have key : ∀ a b, DoneE es seen a → (R a).ownBlock = some b → V.ownBlock ≠ some b := by
      intro a b ha hb hVv
      obtain ⟨ps', hps'⟩ := hK a ha
      have h4 := hVb b hVv
      have h3 := (h.rows a ps' hps' ha).lt hb
      omega
    by_cases h1 : a = e
    · rw [if_pos h1] at e1
      by_cases h2 : a' = e
      · exact h1.trans h2.symm
      · rw [if_neg h2] at e2
        have hd2 : DoneE es seen a' := by
          rcases (hdp a').1 hd' with h3 | h3
          · exact absurd h3 h2
          · exact h3
        exact absurd e1 (key a' b hd2 e2)
    · rw [if_neg h1] at e1
      have hd1 : DoneE es seen a := by
        rcases (hdp a).1 hd with h3 | h3
        · exact absurd h3 h1
        · exact h3
      by_cases h2 : a' = e
      · rw [if_pos h2] at e2
        exact absurd e2 (key a b hd1 e1)
      · rw [if_neg h2] at e2
        have hd2 : DoneE es seen a' := by
          rcases (hdp a').1 hd' with h3 | h3
          · exact absurd h3 h2
          · exact h3
        exact h.apart a a' b hd1 hd2 e1 e2
  · by_cases hae : a = e
    · rw [if_pos hae] at hb
      have := hVb b hb
      have := hbel.size
      omega
    · rw [if_neg hae] at hb
      rcases (hdp a).1 hd with h1 | h1
      · exact absurd h1 hae
      · exact h.lowR a b h1 hb
end Go.Proofs.Ytlifldionfoddaa
