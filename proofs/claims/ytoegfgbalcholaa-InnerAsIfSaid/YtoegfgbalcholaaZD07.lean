/-
  Texts laid together: InRefRead, Sl, InRefChange, InBack.
-/
import Derived.Test.YtoegfgbalcholaaZD01
import Derived.Test.YtoegfgbalcholaaZD02
import Derived.Test.YtoegfgbalcholaaZD05
import Derived.Test.YtoegfgbalcholaaZD06
import Derived.Deep.RegionHeld3
import Derived.Deep.DeepCutAuto
import Derived.Deep.AppendSrc
import Derived.Test.YtoegfgbalcholaaZD03
import Derived.Deep.CutRange

/-
  culvertref16's Read (stage 16, written ahead).
-/
namespace Go.Proofs.Ytoegfgbalcholaa
set_option maxRecDepth 10000
open Go.RowKit
set_option linter.unusedSimpArgs false
set_option linter.unusedVariables false

/-- A quote told, and an error. -/
def QuoteIs (t : Tu) (s x : Int) (w : World) (e : Ending) (w' : World) : Prop := e = .returned (.tuple #[.agg #[.int .u8 t.pr, .int .u32 t.sr, .int .u32 t.ds, .int .u16 t.sp, .int .u16 t.dp, .int .u32 s], .int .i64 x]) ∧ Below w.heap.size w w'
def zTu : Tu := ⟨0, 0, 0, 0, 0⟩
def qT (b : List Int) : Tu := if errQ b = 0 then qTu b else zTu
def qS (b : List Int) : Int := if errQ b = 0 then qSeq b else 0
theorem cells6 {w : World} {g : Nat} {v0 v1 v2 v3 v4 v5 : Value} {t : TypeId} (h : w.heap[g]? = some (.cells #[v0, v1, v2, v3, v4, v5] t (0, 0))) : w.cell? ⟨g, 0, none⟩ = some v0 ∧ w.cell? ⟨g, 1, none⟩ = some v1 ∧ w.cell? ⟨g, 2, none⟩ = some v2 ∧ w.cell? ⟨g, 3, none⟩ = some v3 ∧ w.cell? ⟨g, 4, none⟩ = some v4 ∧ w.cell? ⟨g, 5, none⟩ = some v5 := by
  refine ⟨?_, ?_, ?_, ?_, ?_, ?_⟩ <;> (rw [blk_cell h]; rfl)
theorem set6_blk {w : World} {q : Nat} {u0 u1 u2 u3 u4 u5 : Value} {t : TypeId} (h : w.heap[q]? = some (.cells #[u0, u1, u2, u3, u4, u5] t (0, 0))) (v0 v1 v2 v3 v4 v5 : Value) :
    ((((((w.setCell ⟨q, 0, none⟩ v0).setCell ⟨q, 1, none⟩ v1).setCell ⟨q, 2, none⟩ v2).setCell ⟨q, 3, none⟩ v3).setCell ⟨q, 4, none⟩ v4).setCell ⟨q, 5, none⟩ v5).heap[q]? = some (.cells #[v0, v1, v2, v3, v4, v5] t (0, 0)) := by
  simp [World.setCell, Array.getElem?_modify, h]
theorem set6_below {B : Nat} {w0 w : World} {q : Nat} (h : Below B w0 w) (hq : B ≤ q) (v0 v1 v2 v3 v4 v5 : Value) :
    Below B w0 ((((((w.setCell ⟨q, 0, none⟩ v0).setCell ⟨q, 1, none⟩ v1).setCell ⟨q, 2, none⟩ v2).setCell ⟨q, 3, none⟩ v3).setCell ⟨q, 4, none⟩ v4).setCell ⟨q, 5, none⟩ v5) :=
  (((((h.setCell (p := ⟨q, 0, none⟩) hq v0).setCell (p := ⟨q, 1, none⟩) hq v1).setCell (p := ⟨q, 2, none⟩) hq v2).setCell (p := ⟨q, 3, none⟩) hq v3).setCell (p := ⟨q, 4, none⟩) hq v4).setCell (p := ⟨q, 5, none⟩) hq v5
end Go.Proofs.Ytoegfgbalcholaa

/-
  Slices of numbers of one kind, from any place of their block on ('Sl'): read, written, cut at the front, appended to, cloned. No function of the program.
-/
namespace Go.Proofs.Ytoegfgbalcholaa
set_option maxRecDepth 10000
open Go.RowKit

/-- Block g holds from o on the numbers of l, room for c in all. -/
def Row (w : World) (T : TypeId) (k : IntKind) (g o : Nat) (l : List Int) (c : Nat) : Prop :=
  ∃ C, w.heap[g]? = some (.cells C T (0, 0)) ∧ o + c ≤ C.size ∧ l.length ≤ c ∧ c ≤ maxLen ∧ ∀ i, i < l.length → C[o + i]? = some (.int k (l.getD i 0))
/-- A slice that is none, or lies so in block g. -/
def Sl (w : World) (T : TypeId) (k : IntKind) (v : Value) (l : List Int) : Prop :=
  (v = .slice none 0 0 ∧ l = []) ∨ ∃ g o c, v = .slice (some ⟨g, o, none⟩) l.length c ∧ Row w T k g o l c

theorem Row.lt {w : World} {T : TypeId} {k : IntKind} {g o : Nat} {l : List Int} {c : Nat} (h : Row w T k g o l c) : g < w.heap.size := by
  obtain ⟨C, hg, _⟩ := h
  exact lt_of_block hg
theorem Row.cell {w : World} {T : TypeId} {k : IntKind} {g o : Nat} {l : List Int} {c : Nat} (h : Row w T k g o l c) {i : Nat} (hi : i < l.length) : w.cell? ⟨g, o + i, none⟩ = some (.int k (l.getD i 0)) := by
  obtain ⟨C, hg, _, _, _, hc⟩ := h
  rw [blk_cell hg]
  exact hc i hi
theorem Row.free {w : World} {T : TypeId} {k : IntKind} {g o : Nat} {l : List Int} {c : Nat} (h : Row w T k g o l c) (i : Nat) : w.frozen? ⟨g, i, none⟩ = false := by
  obtain ⟨C, hg, _⟩ := h
  exact blk_free hg i
theorem Row.there {w : World} {T : TypeId} {k : IntKind} {g o : Nat} {l : List Int} {c : Nat} (h : Row w T k g o l c) {i : Nat} (hi : i < c) : (w.cell? ⟨g, o + i, none⟩).isSome = true := by
  obtain ⟨C, hg, hC, _⟩ := h
  rw [blk_cell hg, Array.getElem?_eq_getElem (by omega)]
  rfl
theorem Row.of_block {w w' : World} {T : TypeId} {k : IntKind} {g o : Nat} {l : List Int} {c : Nat} (h : Row w T k g o l c) (hb : w'.heap[g]? = w.heap[g]?) : Row w' T k g o l c := by
  obtain ⟨C, hg, hr⟩ := h
  exact ⟨C, hb.trans hg, hr⟩
theorem Row.but {S : Nat → Prop} {w w' : World} {T : TypeId} {k : IntKind} {g o : Nat} {l : List Int} {c : Nat} (h : Row w T k g o l c) (hb : But S w w') (hn : ¬ S g) : Row w' T k g o l c :=
  h.of_block (hb.block g h.lt hn)
theorem heap_setCell_at {w : World} {g : Nat} {C : Array Value} {T : TypeId} {fr : Nat × Nat} (h : w.heap[g]? = some (.cells C T fr)) (j : Nat) (u : Value) : (w.setCell ⟨g, j, none⟩ u).heap[g]? = some (.cells (C.setIfInBounds j u) T fr) := by
  unfold World.setCell
  simp [Array.getElem?_modify, h]
theorem Row.set_ {w : World} {T : TypeId} {k : IntKind} {g o : Nat} {l : List Int} {c : Nat} (h : Row w T k g o l c) (j : Nat) (x : Int) : Row (w.setCell ⟨g, o + j, none⟩ (.int k x)) T k g o (l.set j x) c := by
  obtain ⟨C, hg, hC, hl, hm, hc⟩ := h
  refine ⟨_, heap_setCell_at hg _ _, by simpa using hC, by simpa using hl, hm, fun i hi => ?_⟩
  simp only [List.length_set] at hi
  have hci := hc i hi
  by_cases e : j = i
  · subst e
    simp [List.getD, hi, (show o + j < C.size by omega)]
  · rw [Array.getElem?_setIfInBounds_ne (by omega), hci]
    simp [List.getD, List.getElem?_set_ne e]
theorem Row.tail {w : World} {T : TypeId} {k : IntKind} {g o : Nat} {x : Int} {l : List Int} {c : Nat} (h : Row w T k g o (x :: l) c) : Row w T k g (o + 1) l (c - 1) := by
  obtain ⟨C, hg, hC, hl, hm, hc⟩ := h
  simp only [List.length_cons] at hl hc
  refine ⟨C, hg, by omega, by omega, by omega, fun i hi => ?_⟩
  have := hc (i + 1) (by omega)
  rw [show o + 1 + i = o + (i + 1) by omega, this]
  rfl
theorem Sl.nil (w : World) (T : TypeId) (k : IntKind) : Sl w T k (.slice none 0 0) [] := .inl ⟨rfl, rfl⟩
theorem Sl.form {w : World} {T : TypeId} {k : IntKind} {v : Value} {l : List Int} (h : Sl w T k v l) : ∃ A c, v = .slice A l.length c ∧ (0 < l.length → ∃ g o, A = some ⟨g, o, none⟩ ∧ Row w T k g o l c) := by
  rcases h with ⟨rfl, rfl⟩ | ⟨g, o, c, rfl, h⟩
  · exact ⟨_, _, rfl, fun h => by simp at h⟩
  · exact ⟨_, _, rfl, fun _ => ⟨g, o, rfl, h⟩⟩
theorem Sl.but {S : Nat → Prop} {w w' : World} {T : TypeId} {k : IntKind} {v : Value} {l : List Int} (h : Sl w T k v l) (hb : But S w w') (hn : ∀ g, v.ownBlock = some g → ¬ S g) : Sl w' T k v l := by
  rcases h with h | ⟨g, o, c, rfl, h⟩
  · exact .inl h
  · exact .inr ⟨g, o, c, rfl, h.but hb (hn g rfl)⟩
theorem Sl.lt {w : World} {T : TypeId} {k : IntKind} {v : Value} {l : List Int} (h : Sl w T k v l) {g : Nat} (hg : v.ownBlock = some g) : g < w.heap.size := by
  rcases h with ⟨rfl, _⟩ | ⟨g', o, c, rfl, h⟩
  · cases hg
  · injection hg with e
    subst e
    exact h.lt
/-- Its block has the elements' type. -/
theorem Sl.type {w : World} {T : TypeId} {k : IntKind} {v : Value} {l : List Int} (h : Sl w T k v l) {g : Nat} (hg : v.ownBlock = some g) : ∃ C, w.heap[g]? = some (.cells C T (0, 0)) := by
  rcases h with ⟨rfl, _⟩ | ⟨g', o, c, rfl, h⟩
  · cases hg
  · injection hg with e
    subst e
    obtain ⟨C, hC, _⟩ := h
    exact ⟨C, hC⟩
theorem Row.one {w : World} (T : TypeId) (k : IntKind) (x : Int) (g : Nat) (hg : w.heap.size = g) : Sl (w.alloc (.cells #[.int k x] T)) T k (.slice (some ⟨g, 0, none⟩) 1 1) [x] := by
  subst hg
  refine .inr ⟨_, 0, 1, rfl, _, heap_alloc_new w _, by simp, by simp, by simp [maxLen], fun i hi => ?_⟩
  simp at hi
  subst hi
  rfl
theorem Row.empty {w : World} (T : TypeId) (k : IntKind) (g : Nat) (hg : w.heap.size = g) : Sl (w.alloc (.cells #[] T)) T k (.slice (some ⟨g, 0, none⟩) 0 0) [] := by
  subst hg
  exact .inr ⟨_, 0, 0, rfl, _, heap_alloc_new w _, by simp, by simp, by simp [maxLen], fun i hi => by simp at hi⟩

end Go.Proofs.Ytoegfgbalcholaa

/-
  culvertref16's change: a word becomes another one, and the fields follow (stage 16, written ahead).
-/
namespace Go.Proofs.Ytoegfgbalcholaa
set_option maxRecDepth 10000
open Go.RowKit
set_option linter.unusedSimpArgs false
set_option linter.unusedVariables false

/-- A word laid: two bytes. -/
theorem lay_two {w : World} {B g n c : Nat} {l : List Int} (h : OwnB w B (some ⟨g, 0, none⟩) n c l) (k : Nat) (x : Int) : OwnB ((w.setCell ⟨g, 2 * k, none⟩ (.int .u8 (x / 256))).setCell ⟨g, 2 * k + 1, none⟩ (.int .u8 (x % 256))) B (some ⟨g, 0, none⟩) n c (layL l k x) := (h.set_ (2 * k) (x / 256)).set_ (2 * k + 1) (x % 256)
end Go.Proofs.Ytoegfgbalcholaa

/-
  A quote rewritten, and back: plain lists (stage 16, written ahead): nothing of the program.
-/
namespace Go.Proofs.Ytoegfgbalcholaa
set_option maxRecDepth 10000
set_option linter.unusedSimpArgs false
set_option linter.unusedVariables false

theorem getD_parts (b : List Int) (hb : Bytes b) (k : Nat) : b.getD (2 * k) 0 = wordL b k / 256 ∧ b.getD (2 * k + 1) 0 = wordL b k % 256 := by
  have h1 := getD_byteQ hb (2 * k)
  have h2 := getD_byteQ hb (2 * k + 1)
  unfold wordL
  exact ⟨by omega, by omega⟩
theorem getD_eq_word {a b : List Int} (ha : Bytes a) (hb : Bytes b) {k : Nat} (h : wordL a k = wordL b k) {i : Nat} (hi : i / 2 = k) : a.getD i 0 = b.getD i 0 := by
  obtain ⟨a1, a2⟩ := getD_parts a ha k
  obtain ⟨b1, b2⟩ := getD_parts b hb k
  rcases (show i = 2 * k ∨ i = 2 * k + 1 by omega) with rfl | rfl
  · rw [a1, b1, h]
  · rw [a2, b2, h]
theorem word_of_getD {a b : List Int} {k : Nat} (h : ∀ i, i / 2 = k → a.getD i 0 = b.getD i 0) : wordL a k = wordL b k := by
  unfold wordL; rw [h _ (by omega), h _ (by omega)]
/-- Are bytes the same, but that words 0 and ffff at places stand for each other? -/
def likeStep (a b x : List Int) (k : Nat) : List Int := if 2 * k + 2 ≤ a.length ∧ likeB (wordL a k) (wordL b k) = true then layL x k (wordL a k) else x
def likeQ (a b : List Int) (ks : List Nat) : Bool := decide (a.length = b.length) && decide (a = ks.foldl (likeStep a b) b)
theorem likeStep_len (a b x : List Int) (k : Nat) : (likeStep a b x k).length = x.length := by unfold likeStep; split; exact layL_len _ _ _; rfl
theorem likeFold_len (a b : List Int) : ∀ (ks : List Nat) (x : List Int), (ks.foldl (likeStep a b) x).length = x.length
  | [], _ => rfl
  | k :: ks, x => by rw [List.foldl_cons, likeFold_len a b ks, likeStep_len]
theorem likeFold_getD {a b : List Int} (ha : Bytes a) : ∀ (ks : List Nat) (x : List Int) (i : Nat), x.length = a.length → (x.getD i 0 = a.getD i 0 ∨ (i / 2 ∈ ks ∧ 2 * (i / 2) + 2 ≤ a.length ∧ likeB (wordL a (i / 2)) (wordL b (i / 2)) = true)) → (ks.foldl (likeStep a b) x).getD i 0 = a.getD i 0
  | [], x, i, _, h => by
    rcases h with h | h
    · exact h
    · cases h.1
  | k :: ks, x, i, hl, h => by
    rw [List.foldl_cons]
    refine likeFold_getD ha ks _ i (by rw [likeStep_len]; exact hl) ?_
    by_cases hk : i / 2 = k
    · by_cases hc : 2 * k + 2 ≤ a.length ∧ likeB (wordL a k) (wordL b k) = true
      · left
        unfold likeStep
        rw [if_pos hc]
        obtain ⟨a1, a2⟩ := getD_parts a ha k
        rw [getD_lay_at _ _ _ _ hk (by omega)]
        rcases (show i = 2 * k ∨ i = 2 * k + 1 by omega) with e | e
        · rw [if_pos (by omega), e, a1]
        · rw [if_neg (by omega), e, a2]
      · unfold likeStep
        rw [if_neg hc]
        rcases h with h | ⟨h1, h2, h3⟩
        · exact .inl h
        · rw [hk] at h2 h3; exact absurd ⟨h2, h3⟩ hc
    · rcases h with h | ⟨h1, h2, h3⟩
      · left
        unfold likeStep
        split
        · rw [getD_lay _ _ _ _ hk]; exact h
        · exact h
      · rcases List.mem_cons.1 h1 with h1 | h1
        · exact absurd h1 hk
        · exact .inr ⟨h1, h2, h3⟩
theorem like_true {a b : List Int} (ha : Bytes a) (hl : a.length = b.length) (ks : List Nat) (h : ∀ i, i < a.length → a.getD i 0 = b.getD i 0 ∨ (i / 2 ∈ ks ∧ 2 * (i / 2) + 2 ≤ a.length ∧ likeB (wordL a (i / 2)) (wordL b (i / 2)) = true)) : likeQ a b ks = true := by
  unfold likeQ
  rw [decide_eq_true hl, Bool.true_and]
  refine decide_eq_true (List.ext_getElem (by rw [likeFold_len, hl]) (fun i h1 h2 => ?_))
  have key : ∀ (l : List Int) (hh : i < l.length), l[i] = l.getD i 0 := fun l hh => by simp [List.getD, hh]
  rw [key _ h1, key _ h2]
  symm
  refine likeFold_getD ha ks b i hl.symm ?_
  rcases h i h1 with h | h
  · exact .inl h.symm
  · exact .inr h
/-- The tuple that a quote of such a Proto may become. -/
def TuFits (b : List Int) (t : Tu) : Prop := t.pr = b.getD 9 0 ∧ (b.getD 9 0 = 1 → t.dp = 0)
theorem RwIs.head {b r : List Int} {t : Tu} {s : Int} (h : RwIs b r t s) : wordL r 6 = t.sr / 65536 ∧ wordL r 7 = t.sr % 65536 ∧ wordL r 8 = t.ds / 65536 ∧ wordL r 9 = t.ds % 65536 :=
  ⟨h.word (6, t.sr / 65536) (by unfold headQ; simp), h.word (7, t.sr % 65536) (by unfold headQ; simp), h.word (8, t.ds / 65536) (by unfold headQ; simp), h.word (9, t.ds % 65536) (by unfold headQ; simp)⟩
/-- What a rewriting leaves: all but the addresses, the ports (the number), the fields. -/
theorem RwIs.low {b r : List Int} {t : Tu} {s : Int} (h : RwIs b r t s) (h10 : 10 ≤ qH b) {i : Nat} (hi : i < 2 * qH b) (h5 : i / 2 ≠ 5) (h6 : i / 2 < 6 ∨ 9 < i / 2) : r.getD i 0 = b.getD i 0 := by
  refine h.far i h5 (fun hm => ?_) (fun p hp e => ?_)
  · rcases part_cases b with h | ⟨h, _⟩
    · rw [h] at hm; cases hm
    · rw [h] at hm
      have := List.mem_singleton.1 hm
      have hF : qH b + 1 ≤ qF (b.getD 9 0) (qH b) := by unfold qF; split; omega; split <;> omega
      omega
  · rcases List.mem_append.1 hp with hp | hp
    · have hin : p.1 = 6 ∨ p.1 = 7 ∨ p.1 = 8 ∨ p.1 = 9 := by unfold headQ at hp; simp only [List.mem_cons, List.not_mem_nil, or_false] at hp; rcases hp with rfl | rfl | rfl | rfl <;> simp
      omega
    · have hge : qH b ≤ p.1 := by
        unfold portsQ at hp
        split at hp
        · rcases List.mem_singleton.1 hp; simp only; omega
        · rcases List.mem_append.1 hp with hp | hp
          · simp only [List.mem_cons, List.not_mem_nil, or_false] at hp; rcases hp with rfl | rfl <;> simp only <;> omega
          · split at hp
            · simp only [List.mem_cons, List.not_mem_nil, or_false] at hp; rcases hp with rfl | rfl <;> simp only <;> omega
            · cases hp
      omega
theorem RwIs.nine {b r : List Int} {t : Tu} {s : Int} (h : RwIs b r t s) (h10 : 10 ≤ qH b) : r.getD 9 0 = b.getD 9 0 ∧ qH r = qH b := by
  have e9 := h.low h10 (i := 9) (by omega) (by omega) (by omega)
  have e0 := h.low h10 (i := 0) (by omega) (by omega) (by omega)
  exact ⟨e9, by unfold qH; rw [e0]⟩
theorem RwIs.part {b r : List Int} {t : Tu} {s : Int} (h : RwIs b r t s) (h10 : 10 ≤ qH b) : partQ r = partQ b := by
  obtain ⟨e9, eH⟩ := h.nine h10
  have hl := h.len
  unfold partQ
  rw [e9, eH, hl]
  by_cases hc : 2 * qF (b.getD 9 0) (qH b) + 2 ≤ b.length
  · by_cases h17 : b.getD 9 0 = 17
    · by_cases hz : wordL b (qF (b.getD 9 0) (qH b)) = 0
      · have hp : partQ b = [] := by unfold partQ; rw [if_neg (fun h => h.2 ⟨h17, hz⟩)]
        have hF : qF (b.getD 9 0) (qH b) = qH b + 3 := by unfold qF; rw [h17]; simp
        have hw : wordL r (qF (b.getD 9 0) (qH b)) = wordL b (qF (b.getD 9 0) (qH b)) := word_of_getD (fun i hi => h.far i (by omega) (by rw [hp]; simp) (fun p hp2 e => by
          rcases List.mem_append.1 hp2 with hp2 | hp2
          · have hin : p.1 = 6 ∨ p.1 = 7 ∨ p.1 = 8 ∨ p.1 = 9 := by unfold headQ at hp2; simp only [List.mem_cons, List.not_mem_nil, or_false] at hp2; rcases hp2 with rfl | rfl | rfl | rfl <;> simp
            omega
          · unfold portsQ at hp2
            rw [h17] at hp2
            simp at hp2
            rcases hp2 with rfl | rfl <;> (simp only at e; omega)))
        rw [hw]
      · have hp : partQ b = [qF (b.getD 9 0) (qH b)] := by unfold partQ; rw [if_pos ⟨hc, fun h => hz h.2⟩]
        have hz2 := h.z (by omega) (qF (b.getD 9 0) (qH b)) (by rw [hp]; simp)
        rw [if_pos ⟨hc, fun h => hz2 h.2⟩, if_pos ⟨hc, fun h => hz h.2⟩]
    · rw [if_pos ⟨hc, fun h => h17 h.1⟩, if_pos ⟨hc, fun h => h17 h.1⟩]
  · rw [if_neg (fun h => hc h.1), if_neg (fun h => hc h.1)]
theorem RwIs.ports {b r : List Int} {t : Tu} {s : Int} (h : RwIs b r t s) :
    (b.getD 9 0 = 1 → wordL r (qH b + 2) = t.sp) ∧ (b.getD 9 0 ≠ 1 → wordL r (qH b) = t.sp ∧ wordL r (qH b + 1) = t.dp) ∧ (b.getD 9 0 = 6 → wordL r (qH b + 2) = s / 65536 ∧ wordL r (qH b + 3) = s % 65536) := by
  refine ⟨fun h1 => ?_, fun h1 => ⟨?_, ?_⟩, fun h6 => ⟨?_, ?_⟩⟩
  · exact h.word (qH b + 2, t.sp) (by unfold portsQ; rw [if_pos h1]; simp)
  · exact h.word (qH b, t.sp) (by unfold portsQ; rw [if_neg h1]; simp)
  · exact h.word (qH b + 1, t.dp) (by unfold portsQ; rw [if_neg h1]; simp)
  · exact h.word (qH b + 2, s / 65536) (by unfold portsQ; rw [if_neg (by omega), if_pos h6]; simp)
  · exact h.word (qH b + 3, s % 65536) (by unfold portsQ; rw [if_neg (by omega), if_pos h6]; simp)
/-- Read of what was rewritten. -/
theorem RwIs.read {b r : List Int} {t : Tu} {s : Int} (h : RwIs b r t s) (hb : Bytes b) (he : errQ b = 0) (ht : TuNum t) (hf : TuFits b t) (hs : 0 ≤ s ∧ s < 4294967296) : errQ r = 0 ∧ qTu r = t ∧ qSeq r = if b.getD 9 0 = 6 then s else 0 := by
  obtain ⟨⟨g1, h10, hl, g4⟩, hp⟩ := errQ_ok he
  obtain ⟨e9, eH⟩ := h.nine h10
  obtain ⟨w6, w7, w8, w9⟩ := h.head
  obtain ⟨p1, p2, p3⟩ := h.ports
  have e0 := h.low h10 (i := 0) (by omega) (by omega) (by omega)
  have e3 : wordL r 3 = wordL b 3 := word_of_getD (fun i hi => h.low h10 (by omega) (by omega) (by omega))
  refine ⟨?_, ?_, ?_⟩
  · unfold errQ
    rw [if_neg (by rw [h.len]; omega), if_neg (by rw [e0, eH]; omega), if_neg (by rw [h.len, eH]; omega), if_neg (by rw [e3]; omega)]
    rcases hp with hp | hp | ⟨hp, hpe⟩
    · rw [if_pos (by left; rw [e9]; exact hp)]
    · rw [if_pos (by right; rw [e9]; exact hp)]
    · rw [if_neg (by rw [e9]; omega), if_pos]
      refine ⟨by rw [e9]; exact hp, ?_⟩
      have hw : wordL r (qH b) = wordL b (qH b) := word_of_getD (fun i hi => h.far i (by omega) (fun hm => by
        rcases part_cases b with q | ⟨q, _⟩
        · rw [q] at hm; cases hm
        · rw [q] at hm
          have := List.mem_singleton.1 hm
          have hF : qH b + 1 ≤ qF (b.getD 9 0) (qH b) := by unfold qF; split; omega; split <;> omega
          omega) (fun p hp2 e => by
        rcases List.mem_append.1 hp2 with hp2 | hp2
        · have hin : p.1 = 6 ∨ p.1 = 7 ∨ p.1 = 8 ∨ p.1 = 9 := by unfold headQ at hp2; simp only [List.mem_cons, List.not_mem_nil, or_false] at hp2; rcases hp2 with rfl | rfl | rfl | rfl <;> simp
          omega
        · unfold portsQ at hp2
          rw [if_pos hp] at hp2
          rcases List.mem_singleton.1 hp2
          simp only at e
          omega))
      rw [eH, getD_eq_word h.byte hb hw (i := 2 * qH b) (by omega), getD_eq_word h.byte hb hw (i := 2 * qH b + 1) (by omega)]
      exact hpe
  · obtain ⟨f1, f2⟩ := hf
    have h1 := ht.sr; have h2 := ht.ds
    unfold qTu
    rw [e9, eH, w6, w7, w8, w9]
    obtain ⟨tp, ts, td, tsp, tdp⟩ := t
    simp only at f1 f2 p1 p2 h1 h2 ⊢
    by_cases hq : b.getD 9 0 = 1
    · rw [if_pos hq, if_pos hq, p1 hq, f2 hq, f1]
      congr 1 <;> omega
    · rw [if_neg hq, if_neg hq, (p2 hq).1, (p2 hq).2, f1]
      congr 1 <;> omega
  · unfold qSeq
    rw [e9, eH]
    by_cases hq : b.getD 9 0 = 6
    · rw [if_pos hq, if_pos hq, (p3 hq).1, (p3 hq).2]; omega
    · rw [if_neg hq, if_neg hq]
/-- Steps that may be taken. -/
theorem may_head {b c : List Int} (he : errQ b = 0) (hc : Bytes c) (hl : c.length = b.length) {k : Nat} (hk : 6 ≤ k ∧ k ≤ 9) {x : Int} (hx : U16 x) : MayQ (bothQ b) c k x := by
  obtain ⟨⟨_, h10, hlb, _⟩, hp⟩ := errQ_ok he
  have hF : qH b + 1 ≤ qF (b.getD 9 0) (qH b) := by unfold qF; split; omega; split <;> omega
  have hpc := part_cases b
  have hin : ∀ f ∈ bothQ b, f = 5 ∨ (f = qF (b.getD 9 0) (qH b) ∧ 2 * qF (b.getD 9 0) (qH b) + 2 ≤ b.length) := by
    intro f hf
    unfold bothQ at hf
    rcases List.mem_cons.1 hf with h | h
    · exact .inl h
    · by_cases h9 : b.getD 9 0 = 1
      · rw [if_pos h9] at h; cases h
      · rw [if_neg h9] at h
        rcases hpc with q | ⟨q, ql⟩
        · rw [q] at h; cases h
        · rw [q] at h; exact .inr ⟨List.mem_singleton.1 h, ql⟩
  refine ⟨hc, by omega, hx, fun f hf => ?_, ?_⟩
  · rcases hin f hf with h | h <;> omega
  · unfold bothQ
    by_cases h9 : b.getD 9 0 = 1
    · rw [if_pos h9]; simp
    · rw [if_neg h9]
      rcases hpc with q | ⟨q, _⟩
      · rw [q]; simp
      · rw [q]; exact List.nodup_cons.2 ⟨fun h => by have := List.mem_singleton.1 h; omega, by simp⟩
end Go.Proofs.Ytoegfgbalcholaa
