/-
  Texts laid together: InBack, InRefRw, BytesEq, InRefOf.
-/
import Derived.Test.YtoegfgbalcholaaZC05
import Derived.Test.YtoegfgbalcholaaZC07
import Derived.Deep.DeepCutAuto
import Derived.Test.YtoegfgbalcholaaZC01
import Derived.Lib.Hide
import Derived.Outline
import Derived.Test.YtoegfgbalcholaaZC02

/-
  A quote rewritten, and back: plain lists (stage 16, written ahead): nothing of the program.
-/
namespace Go.Proofs.Ytoegfgbalcholaa
set_option maxRecDepth 10000
set_option linter.unusedSimpArgs false
set_option linter.unusedVariables false

theorem getD_parts (b : List Int) (hb : Bytes b) (k : Nat) : b.getD (2 * k) 0 = wordL b k / 256 ∧ b.getD (2 * k + 1) 0 = wordL b k % 256 := by
  have h1 := getD_byteQ hb (2 * k)
  have h2 := getD_byteQ hb (2 * k + 1)
  unfold wordL
  exact ⟨by omega, by omega⟩
theorem getD_eq_word {a b : List Int} (ha : Bytes a) (hb : Bytes b) {k : Nat} (h : wordL a k = wordL b k) {i : Nat} (hi : i / 2 = k) : a.getD i 0 = b.getD i 0 := by
  obtain ⟨a1, a2⟩ := getD_parts a ha k
  obtain ⟨b1, b2⟩ := getD_parts b hb k
  rcases (show i = 2 * k ∨ i = 2 * k + 1 by omega) with rfl | rfl
  · rw [a1, b1, h]
  · rw [a2, b2, h]
theorem word_of_getD {a b : List Int} {k : Nat} (h : ∀ i, i / 2 = k → a.getD i 0 = b.getD i 0) : wordL a k = wordL b k := by
  unfold wordL; rw [h _ (by omega), h _ (by omega)]
/-- The tuple that a quote of such a Proto may become. -/
def TuFits (b : List Int) (t : Tu) : Prop := t.pr = b.getD 9 0 ∧ (b.getD 9 0 = 1 → t.dp = 0)
theorem RwIs.head {b r : List Int} {t : Tu} {s : Int} (h : RwIs b r t s) : wordL r 6 = t.sr / 65536 ∧ wordL r 7 = t.sr % 65536 ∧ wordL r 8 = t.ds / 65536 ∧ wordL r 9 = t.ds % 65536 :=
  ⟨h.word (6, t.sr / 65536) (by unfold headQ; simp), h.word (7, t.sr % 65536) (by unfold headQ; simp), h.word (8, t.ds / 65536) (by unfold headQ; simp), h.word (9, t.ds % 65536) (by unfold headQ; simp)⟩
/-- What a rewriting leaves: all but the addresses, the ports (the number), the fields. -/
theorem RwIs.low {b r : List Int} {t : Tu} {s : Int} (h : RwIs b r t s) (h10 : 10 ≤ qH b) {i : Nat} (hi : i < 2 * qH b) (h5 : i / 2 ≠ 5) (h6 : i / 2 < 6 ∨ 9 < i / 2) : r.getD i 0 = b.getD i 0 := by
  refine h.far i h5 (fun hm => ?_) (fun p hp e => ?_)
  · rcases part_cases b with h | ⟨h, _⟩
    · rw [h] at hm; cases hm
    · rw [h] at hm
      have := List.mem_singleton.1 hm
      have hF : qH b + 1 ≤ qF (b.getD 9 0) (qH b) := by unfold qF; split; omega; split <;> omega
      omega
  · rcases List.mem_append.1 hp with hp | hp
    · have hin : p.1 = 6 ∨ p.1 = 7 ∨ p.1 = 8 ∨ p.1 = 9 := by unfold headQ at hp; simp only [List.mem_cons, List.not_mem_nil, or_false] at hp; rcases hp with rfl | rfl | rfl | rfl <;> simp
      omega
    · have hge : qH b ≤ p.1 := by
        unfold portsQ at hp
        split at hp
        · rcases List.mem_singleton.1 hp; simp only; omega
        · rcases List.mem_append.1 hp with hp | hp
          · simp only [List.mem_cons, List.not_mem_nil, or_false] at hp; rcases hp with rfl | rfl <;> simp only <;> omega
          · split at hp
            · simp only [List.mem_cons, List.not_mem_nil, or_false] at hp; rcases hp with rfl | rfl <;> simp only <;> omega
            · cases hp
      omega
theorem RwIs.nine {b r : List Int} {t : Tu} {s : Int} (h : RwIs b r t s) (h10 : 10 ≤ qH b) : r.getD 9 0 = b.getD 9 0 ∧ qH r = qH b := by
  have e9 := h.low h10 (i := 9) (by omega) (by omega) (by omega)
  have e0 := h.low h10 (i := 0) (by omega) (by omega) (by omega)
  exact ⟨e9, by unfold qH; rw [e0]⟩
theorem RwIs.part {b r : List Int} {t : Tu} {s : Int} (h : RwIs b r t s) (h10 : 10 ≤ qH b) : partQ r = partQ b := by
  obtain ⟨e9, eH⟩ := h.nine h10
  have hl := h.len
  unfold partQ
  rw [e9, eH, hl]
  by_cases hc : 2 * qF (b.getD 9 0) (qH b) + 2 ≤ b.length
  · by_cases h17 : b.getD 9 0 = 17
    · by_cases hz : wordL b (qF (b.getD 9 0) (qH b)) = 0
      · have hp : partQ b = [] := by unfold partQ; rw [if_neg (fun h => h.2 ⟨h17, hz⟩)]
        have hF : qF (b.getD 9 0) (qH b) = qH b + 3 := by unfold qF; rw [h17]; simp
        have hw : wordL r (qF (b.getD 9 0) (qH b)) = wordL b (qF (b.getD 9 0) (qH b)) := word_of_getD (fun i hi => h.far i (by omega) (by rw [hp]; simp) (fun p hp2 e => by
          rcases List.mem_append.1 hp2 with hp2 | hp2
          · have hin : p.1 = 6 ∨ p.1 = 7 ∨ p.1 = 8 ∨ p.1 = 9 := by unfold headQ at hp2; simp only [List.mem_cons, List.not_mem_nil, or_false] at hp2; rcases hp2 with rfl | rfl | rfl | rfl <;> simp
            omega
          · unfold portsQ at hp2
            rw [h17] at hp2
            simp at hp2
            rcases hp2 with rfl | rfl <;> (simp only at e; omega)))
        rw [hw]
      · have hp : partQ b = [qF (b.getD 9 0) (qH b)] := by unfold partQ; rw [if_pos ⟨hc, fun h => hz h.2⟩]
        have hz2 := h.z (by omega) (qF (b.getD 9 0) (qH b)) (by rw [hp]; simp)
        rw [if_pos ⟨hc, fun h => hz2 h.2⟩, if_pos ⟨hc, fun h => hz h.2⟩]
    · rw [if_pos ⟨hc, fun h => h17 h.1⟩, if_pos ⟨hc, fun h => h17 h.1⟩]
  · rw [if_neg (fun h => hc h.1), if_neg (fun h => hc h.1)]
theorem RwIs.ports {b r : List Int} {t : Tu} {s : Int} (h : RwIs b r t s) :
    (b.getD 9 0 = 1 → wordL r (qH b + 2) = t.sp) ∧ (b.getD 9 0 ≠ 1 → wordL r (qH b) = t.sp ∧ wordL r (qH b + 1) = t.dp) ∧ (b.getD 9 0 = 6 → wordL r (qH b + 2) = s / 65536 ∧ wordL r (qH b + 3) = s % 65536) := by
  refine ⟨fun h1 => ?_, fun h1 => ⟨?_, ?_⟩, fun h6 => ⟨?_, ?_⟩⟩
  · exact h.word (qH b + 2, t.sp) (by unfold portsQ; rw [if_pos h1]; simp)
  · exact h.word (qH b, t.sp) (by unfold portsQ; rw [if_neg h1]; simp)
  · exact h.word (qH b + 1, t.dp) (by unfold portsQ; rw [if_neg h1]; simp)
  · exact h.word (qH b + 2, s / 65536) (by unfold portsQ; rw [if_neg (by omega), if_pos h6]; simp)
  · exact h.word (qH b + 3, s % 65536) (by unfold portsQ; rw [if_neg (by omega), if_pos h6]; simp)
/-- Read of what was rewritten. -/
theorem RwIs.read {b r : List Int} {t : Tu} {s : Int} (h : RwIs b r t s) (hb : Bytes b) (he : errQ b = 0) (ht : TuNum t) (hf : TuFits b t) (hs : 0 ≤ s ∧ s < 4294967296) : errQ r = 0 ∧ qTu r = t ∧ qSeq r = if b.getD 9 0 = 6 then s else 0 := by
  obtain ⟨⟨g1, h10, hl, g4⟩, hp⟩ := errQ_ok he
  obtain ⟨e9, eH⟩ := h.nine h10
  obtain ⟨w6, w7, w8, w9⟩ := h.head
  obtain ⟨p1, p2, p3⟩ := h.ports
  have e0 := h.low h10 (i := 0) (by omega) (by omega) (by omega)
  have e3 : wordL r 3 = wordL b 3 := word_of_getD (fun i hi => h.low h10 (by omega) (by omega) (by omega))
  refine ⟨?_, ?_, ?_⟩
  · unfold errQ
    rw [if_neg (by rw [h.len]; omega), if_neg (by rw [e0, eH]; omega), if_neg (by rw [h.len, eH]; omega), if_neg (by rw [e3]; omega)]
    rcases hp with hp | hp | ⟨hp, hpe⟩
    · rw [if_pos (by left; rw [e9]; exact hp)]
    · rw [if_pos (by right; rw [e9]; exact hp)]
    · rw [if_neg (by rw [e9]; omega), if_pos]
      refine ⟨by rw [e9]; exact hp, ?_⟩
      have hw : wordL r (qH b) = wordL b (qH b) := word_of_getD (fun i hi => h.far i (by omega) (fun hm => by
        rcases part_cases b with q | ⟨q, _⟩
        · rw [q] at hm; cases hm
        · rw [q] at hm
          have := List.mem_singleton.1 hm
          have hF : qH b + 1 ≤ qF (b.getD 9 0) (qH b) := by unfold qF; split; omega; split <;> omega
          omega) (fun p hp2 e => by
        rcases List.mem_append.1 hp2 with hp2 | hp2
        · have hin : p.1 = 6 ∨ p.1 = 7 ∨ p.1 = 8 ∨ p.1 = 9 := by unfold headQ at hp2; simp only [List.mem_cons, List.not_mem_nil, or_false] at hp2; rcases hp2 with rfl | rfl | rfl | rfl <;> simp
          omega
        · unfold portsQ at hp2
          rw [if_pos hp] at hp2
          rcases List.mem_singleton.1 hp2
          simp only at e
          omega))
      rw [eH, getD_eq_word h.byte hb hw (i := 2 * qH b) (by omega), getD_eq_word h.byte hb hw (i := 2 * qH b + 1) (by omega)]
      exact hpe
  · obtain ⟨f1, f2⟩ := hf
    have h1 := ht.sr; have h2 := ht.ds
    unfold qTu
    rw [e9, eH, w6, w7, w8, w9]
    obtain ⟨tp, ts, td, tsp, tdp⟩ := t
    simp only at f1 f2 p1 p2 h1 h2 ⊢
    by_cases hq : b.getD 9 0 = 1
    · rw [if_pos hq, if_pos hq, p1 hq, f2 hq, f1]
      congr 1 <;> omega
    · rw [if_neg hq, if_neg hq, (p2 hq).1, (p2 hq).2, f1]
      congr 1 <;> omega
  · unfold qSeq
    rw [e9, eH]
    by_cases hq : b.getD 9 0 = 6
    · rw [if_pos hq, if_pos hq, (p3 hq).1, (p3 hq).2]; omega
    · rw [if_neg hq, if_neg hq]
/-- Steps that may be taken. -/
theorem may_head {b c : List Int} (he : errQ b = 0) (hc : Bytes c) (hl : c.length = b.length) {k : Nat} (hk : 6 ≤ k ∧ k ≤ 9) {x : Int} (hx : U16 x) : MayQ (bothQ b) c k x := by
  obtain ⟨⟨_, h10, hlb, _⟩, hp⟩ := errQ_ok he
  have hF : qH b + 1 ≤ qF (b.getD 9 0) (qH b) := by unfold qF; split; omega; split <;> omega
  have hpc := part_cases b
  have hin : ∀ f ∈ bothQ b, f = 5 ∨ (f = qF (b.getD 9 0) (qH b) ∧ 2 * qF (b.getD 9 0) (qH b) + 2 ≤ b.length) := by
    intro f hf
    unfold bothQ at hf
    rcases List.mem_cons.1 hf with h | h
    · exact .inl h
    · by_cases h9 : b.getD 9 0 = 1
      · rw [if_pos h9] at h; cases h
      · rw [if_neg h9] at h
        rcases hpc with q | ⟨q, ql⟩
        · rw [q] at h; cases h
        · rw [q] at h; exact .inr ⟨List.mem_singleton.1 h, ql⟩
  refine ⟨hc, by omega, hx, fun f hf => ?_, ?_⟩
  · rcases hin f hf with h | h <;> omega
  · unfold bothQ
    by_cases h9 : b.getD 9 0 = 1
    · rw [if_pos h9]; simp
    · rw [if_neg h9]
      rcases hpc with q | ⟨q, _⟩
      · rw [q]; simp
      · rw [q]; exact List.nodup_cons.2 ⟨fun h => by have := List.mem_singleton.1 h; omega, by simp⟩
theorem may_port {b c : List Int} (he : errQ b = 0) (hc : Bytes c) (hl : c.length = b.length) {k : Nat} (hk : qH b ≤ k ∧ k ≤ qH b + 3 ∧ k ≠ qF (b.getD 9 0) (qH b)) {x : Int} (hx : U16 x) : MayQ (partQ b) c k x := by
  obtain ⟨⟨_, h10, hlb, _⟩, hp⟩ := errQ_ok he
  have hpc := part_cases b
  refine ⟨hc, by omega, hx, fun f hf => ?_, ?_⟩
  · rcases hpc with q | ⟨q, ql⟩
    · rw [q] at hf; cases hf
    · rw [q] at hf
      have := List.mem_singleton.1 hf
      omega
  · rcases hpc with q | ⟨q, _⟩ <;> rw [q] <;> simp
end Go.Proofs.Ytoegfgbalcholaa

/-
  culvertref16's Rewrite (stage 16, written ahead).
-/
namespace Go.Proofs.Ytoegfgbalcholaa
set_option maxRecDepth 10000
open Go.RowKit
set_option linter.unusedSimpArgs false
set_option linter.unusedVariables false

/-- Bytes of the call's own, and an error. -/
def OwnQ (L : List Int) (m : Nat) (x : Int) (w : World) (e : Ending) (w' : World) : Prop := ∃ A c, e = .returned (.tuple #[.slice A m c, .int .i64 x]) ∧ OwnB w' w.heap.size A m c L ∧ Below w.heap.size w w'
def errR (b : List Int) (t : Tu) : Int := if errQ b ≠ 0 then errQ b else if t.pr ≠ b.getD 9 0 then 1 else 0
def rwR (b : List Int) (t : Tu) (sh : Int) : List Int := if errR b t = 0 then rwQ b t sh else []
theorem rwR_none {l L : List Int} {t : Tu} {sh : Int} {m : Nat} {x k : Int} (hL : rwR l t sh = L) (hm : L.length = m) (hx : errR l t = x) (he : errR l t = k) (h0 : k ≠ 0) : L = [] ∧ m = 0 ∧ x = k := by
  have e : rwR l t sh = [] := by unfold rwR; rw [if_neg (by omega)]
  rw [e] at hL
  subst hL
  exact ⟨rfl, by simpa using hm.symm, by omega⟩
theorem tu_at {w : World} {g : Nat} {T : TypeId} {t : Tu} (h : w.heap[g]? = some (.cells #[.int .u8 t.pr, .int .u32 t.sr, .int .u32 t.ds, .int .u16 t.sp, .int .u16 t.dp] T (0, 0))) : w.cell? ⟨g, 0, none⟩ = some (.int .u8 t.pr) ∧ w.cell? ⟨g, 1, none⟩ = some (.int .u32 t.sr) ∧ w.cell? ⟨g, 2, none⟩ = some (.int .u32 t.ds) ∧ w.cell? ⟨g, 3, none⟩ = some (.int .u16 t.sp) ∧ w.cell? ⟨g, 4, none⟩ = some (.int .u16 t.dp) := by
  refine ⟨?_, ?_, ?_, ?_, ?_⟩ <;> (rw [blk_cell h]; rfl)
theorem info_i64 : (Try.prog.info? 3).map (fun i => (i.zero, i.size, i.bytes)) = some (some (.int .i64 0), 1, 8) := by kernel_rfl
/-- append(nil, x) of ints. -/
theorem app_one (w : World) (x : Int) : ∃ A m c w', (Builtin.append_ #[60, 60] 60 #[.slice none 0 0, .slice (some ⟨w.heap.size, 0, none⟩) 1 1]).run Try.prog (w.alloc (.cells #[.int .i64 x] 3)) = .ok (.slice A m c) w' ∧
    Sl w' 3 .i64 (.slice A m c) [x] ∧ m = 1 ∧ Below w.heap.size w w' ∧ (∀ g, (Value.slice A m c).ownBlock = some g → w.heap.size ≤ g) := by
  obtain ⟨v', w', h1, h2, h3, h4, h5, h6⟩ := sl_app (P := Try.prog) (w.alloc (.cells #[.int .i64 x] 3)) 60 60 3 .i64 8 Try.underlying60 info_i64 (by omega) (.slice none 0 0) (.slice (some ⟨w.heap.size, 0, none⟩) 1 1) [] [x]
    (Sl.nil _ _ _) (Row.one _ _ _ _ rfl) (by simp)
  obtain ⟨A, c, rfl, _⟩ := h2.form
  refine ⟨A, _, c, w', h1, h2, rfl, ((Below.refl _ _).alloc (Nat.le_refl _) _).trans ((h3.below (B := w.heap.size) (fun k hk => by cases hk) (by simp))), fun g hg => ?_⟩
  rcases h4 with h4 | h4
  · rw [h4] at hg; cases hg
  · rw [h4] at hg; injection hg with hg; subst hg; simp
/-- append of a row of ints onto another one that the call made. -/
theorem app_two (B : Nat) (w : World) (A A2 : Option Addr) (m c m2 c2 : Nat) (l l2 : List Int) (h : Sl w 3 .i64 (.slice A m c) l) (h2 : Sl w 3 .i64 (.slice A2 m2 c2) l2) (hs : l.length + l2.length ≤ 1000) (hg : ∀ g, (Value.slice A m c).ownBlock = some g → B ≤ g) (hB : B ≤ w.heap.size) :
    ∃ A3 m3 c3 w', (Builtin.append_ #[60, 60] 60 #[.slice A m c, .slice A2 m2 c2]).run Try.prog w = .ok (.slice A3 m3 c3) w' ∧ Sl w' 3 .i64 (.slice A3 m3 c3) (l ++ l2) ∧ Below B w w' ∧ But (fun g => (Value.slice A m c).ownBlock = some g) w w' := by
  obtain ⟨v', w', h1, h2, h3, h4, h5, h6⟩ := sl_app (P := Try.prog) w 60 60 3 .i64 8 Try.underlying60 info_i64 (by omega) (.slice A m c) (.slice A2 m2 c2) l l2 h h2 (by omega)
  obtain ⟨A3, c3, rfl, _⟩ := h2.form
  exact ⟨A3, _, c3, w', h1, h2, h3.below (fun k hk => hg k hk) hB, h3⟩

/-- The lists of a rewriting, step by step. -/
structure StepQ (b M : List Int) : Prop where
  byte : Bytes M
  len : M.length = b.length
theorem StepQ.rd {b M : List Int} (h : StepQ b M) {w : World} {B : Nat} {A : Option Addr} {n c : Nat} (ho : OwnB w B A n c M) : Rd w A n M := ho.rd h.byte
theorem StepQ.head {b M M2 : List Int} (h : StepQ b M) (he : errQ b = 0) {k : Nat} (hk : 6 ≤ k ∧ k ≤ 9) {x : Int} (hx : U16 x) (e : chQ (bothQ b) M k x = M2) : StepQ b M2 := by
  subst e
  exact ⟨(may_head he h.byte h.len hk hx).bytes, (chQ_len _ _ _ _).trans h.len⟩
theorem StepQ.port {b M M2 : List Int} (h : StepQ b M) (he : errQ b = 0) {k : Nat} (hk : qH b ≤ k ∧ k ≤ qH b + 3 ∧ k ≠ qF (b.getD 9 0) (qH b)) {x : Int} (hx : U16 x) (e : chQ (partQ b) M k x = M2) : StepQ b M2 := by
  subst e
  exact ⟨(may_port he h.byte h.len hk hx).bytes, (chQ_len _ _ _ _).trans h.len⟩
/-- A change of a row that reads, told: memory of the call's own. -/
def ChgIs (n : Nat) (M : List Int) (B : Nat) (w0 w : World) (e : Ending) (w' : World) : Prop := ∃ A c, e = .returned (.slice A n c) ∧ OwnB w' B A n c M ∧ Below B w0 w' ∧ Below w.heap.size w w'
theorem chg_head (A : Option Addr) (n c : Nat) (b M M2 : List Int) (k : Nat) (a x : Int) (Ab : Option Addr) (mb cb : Nat) (w0 w : World) (hn : n ≤ 140737488351232) (h : Rd w A n M) (ha : a = 2 * (k : Int)) (he : errQ b = 0) (hs : StepQ b M) (hk : 6 ≤ k ∧ k ≤ 9) (hx : U16 x)
    (hF : RdI w Ab mb ((bothQ b).map (fun f : Nat => 2 * (f : Int)))) (hB : Below w0.heap.size w0 w) (e : chQ (bothQ b) M k x = M2) :
    Calls Try.prog 29 #[.slice A n c, .int .i64 a, .int .u16 x, .slice Ab mb cb] w (ChgIs n M2 w0.heap.size w0 w) := by
  have hlf := hF.len
  rw [List.length_map] at hlf
  have hpc := part_cases b
  have hl3 : (bothQ b).length ≤ 1000 := by
    unfold bothQ
    by_cases h9 : b.getD 9 0 = 1
    · rw [if_pos h9]; simp
    · rw [if_neg h9]
      rcases hpc with q | ⟨q, _⟩ <;> rw [q] <;> simp
  refine (rchange16_any A n c M k a x Ab mb cb (bothQ b) M2 w hn h ha (may_head he hs.byte hs.len hk hx) hF hlf (by omega) e).mono ?_
  rintro e w' ⟨A', c', rfl, h1, h2, ho, hb⟩
  exact ⟨A', c', rfl, ho.mono hB.size, below_trans hB hb, hb⟩
theorem chg_port (A : Option Addr) (n c : Nat) (b M M2 : List Int) (k : Nat) (a x : Int) (Ab : Option Addr) (mb cb : Nat) (w0 w : World) (hn : n ≤ 140737488351232) (h : Rd w A n M) (ha : a = 2 * (k : Int)) (he : errQ b = 0) (hs : StepQ b M) (hk : qH b ≤ k ∧ k ≤ qH b + 3 ∧ k ≠ qF (b.getD 9 0) (qH b)) (hx : U16 x)
    (hF : RdI w Ab mb ((partQ b).map (fun f : Nat => 2 * (f : Int)))) (hB : Below w0.heap.size w0 w) (e : chQ (partQ b) M k x = M2) :
    Calls Try.prog 29 #[.slice A n c, .int .i64 a, .int .u16 x, .slice Ab mb cb] w (ChgIs n M2 w0.heap.size w0 w) := by
  have hlf := hF.len
  rw [List.length_map] at hlf
  have hl3 : (partQ b).length ≤ 1000 := by rcases part_cases b with q | ⟨q, _⟩ <;> rw [q] <;> simp
  refine (rchange16_any A n c M k a x Ab mb cb (partQ b) M2 w hn h ha (may_port he hs.byte hs.len hk hx) hF hlf (by omega) e).mono ?_
  rintro e w' ⟨A', c', rfl, h1, h2, ho, hb⟩
  exact ⟨A', c', rfl, ho.mono hB.size, below_trans hB hb, hb⟩
end Go.Proofs.Ytoegfgbalcholaa

/-
  The contract of bytes.Equal (for the stages that do not need the options'): over bytes that read as lists.
-/
namespace Go.Proofs.Ytoegfgbalcholaa
set_option maxRecDepth 10000
open Go.RowKit

end Go.Proofs.Ytoegfgbalcholaa

/-
  culvertref16's Of and Like (stage 16, written ahead).
-/
namespace Go.Proofs.Ytoegfgbalcholaa
set_option maxRecDepth 10000
open Go.RowKit
set_option linter.unusedSimpArgs false
set_option linter.unusedVariables false

/-- The first bytes of a packet: how many, which. -/
def ofN (b : List Int) (many : Int) : Nat := if b.length < 20 then 0 else if many < 0 then b.length else min b.length (2 * qH b + many.toNat)
def ofL (b : List Int) (many : Int) : List Int := b.take (ofN b many)
theorem ofL_len (b : List Int) (many : Int) : (ofL b many).length = ofN b many := by
  unfold ofL ofN
  rw [List.length_take]
  split
  · omega
  · split <;> omega
set_option maxHeartbeats 1000000 in
theorem rof16_any (A : Option Addr) (n c : Nat) (b : List Int) (many : Int) (L : List Int) (K : Nat) (w : World) (hn : n ≤ 140737488351232) (h : Rd w A n b) (hmany : -9223372036854775808 ≤ many ∧ many ≤ 9223372036854775807) (hL : ofL b many = L) (hK : L.length = K) :
    Calls Try.prog 12 #[.slice A n c, .int .i64 many] w (RowIs K L w) := by
  have hlen := h.len
  have hby := h.byte
  have hk : ofN b many = K := by rw [← hK, ← hL, ofL_len]
  have HR := Lib.hid h
  have Hby := Lib.hid hby
  have Hlen := Lib.hid hlen
  have Hk := Lib.hid hk
  have HL := Lib.hid hL
  have hni : (n : Int) ≤ 140737488351232 := by omega
  have hkn : K ≤ n := by rw [← hk, ← hlen]; unfold ofN; split; omega; split <;> omega
  clear h hby hK hL hk
  go_enter Try.func12, Try.ntmps12
  by_cases h20 : n < 20
  · have h20i : (n : Int) < 20 := by omega
    have hk0 : K = 0 := by have := Hk.out; unfold ofN at this; rw [if_pos (by have := Hlen.out; omega)] at this; omega
    subst hk0
    have Hend := Lib.hid (show [] = L by rw [← HL.out]; unfold ofL; rw [Hk.out]; rfl)
    clear hlen hkn
    go_wp2_with fail
    go_ret
    exact ⟨none, 0, rfl, Nat.zero_le _, by simp, by rw [← Hend.out]; exact OwnB.nil _ _, Below.refl _ _⟩
  have h20i : ¬ (n : Int) < 20 := by omega
  obtain ⟨q0, r0, c0, l0⟩ := HR.out.index (c := c) (j := 0) (by omega)
  have r0 : ∀ W : World, (Instr.indexAt 22 (.slice A n c) (.int .i64 0)).run Try.prog W = .ok (.pointer (some q0)) W := r0
  have hx0 := getD_byteQ Hby.out 0
  obtain ⟨x0, ex0⟩ : ∃ y, b.getD 0 0 = y := ⟨_, rfl⟩
  rw [ex0] at c0 hx0
  obtain ⟨N, eN⟩ : ∃ N : Nat, 2 * qH b = N := ⟨_, rfl⟩
  have hNx : (N : Int) = 4 * (x0 % 16) := by rw [← eN, ← ex0]; unfold qH; have := getD_byteQ Hby.out 0; omega
  have hN60 : N ≤ 60 := by omega
  have m1 : IntKind.i64.wrap (4 * (x0 % 16)) = (N : Int) := by rw [IntWalk.i64_in _ (by omega)]; omega
  have HN := Lib.hid eN
  have HkO := Hk
  have Hk := Lib.hid (show (if many < 0 then n else min n (N + many.toNat)) = K by
    have := Hk.out; unfold ofN at this; rw [if_neg (by have := Hlen.out; omega), Hlen.out, eN] at this; exact this)
  obtain ⟨hx00, hx01⟩ := hx0
  obtain ⟨hmy0, hmy1⟩ := hmany
  have Hcw := Lib.hid (show ∀ w', Below w.heap.size w w' → w'.cell? q0 = some (.int .u8 x0) from fun w' hb => (hb.cell l0).trans c0)
  clear hNx ex0 eN hlen l0 c0
  go_wp2_with fail
  go_loopg [5, 6] K (fun gk s i wr => ∃ (j : Nat) (A2 : Option Addr) (c2 : Nat) (l2 : List Int), Hid (gk + j = K) ∧ j ≤ K ∧ s = .slice A2 j c2 ∧ i = .int .i64 (j : Int) ∧ Hid (b.take j = l2) ∧ Hid (OwnB wr w.heap.size A2 j c2 l2) ∧ Hid (Below w.heap.size w wr))
  case atStart => exact ⟨0, none, 0, [], rfl, Nat.zero_le _, rfl, rfl, rfl, Lib.hid (OwnB.nil _ _), Lib.hid (Below.refl _ _)⟩
  case round =>
    obtain ⟨j, A2, c2, l2, hgk, hj, rfl, rfl, hl2, hO, HB⟩ := hrel
    have c0 := Hcw.out _ HB.out
    by_cases hjn : j < n
    · have hjni : (j : Int) < (n : Int) := by omega
      by_cases hm0 : many < 0
      · have Hke := Hk.out
        rw [if_pos hm0] at Hke
        replace Hke := Lib.hid Hke
        have HK1 := Lib.hid (show j < K from by (have := Hke.out; omega))
        have Hx := getD_byteQ Hby.out j
        obtain ⟨p, hidx, hpc, hpl⟩ := (HR.out.below HB.out).index (c := c) hjn
        obtain ⟨v, ev⟩ : ∃ y, b.getD j 0 = y := ⟨_, rfl⟩
        rw [ev] at hpc Hx
        have Hnx := Lib.hid (show b.take (j + 1) = l2 ++ [v] by rw [← hl2.out, List.take_add_one]; simp [show j < b.length by have := Hlen.out; omega]; rw [← ev]; simp [List.getD, show j < b.length by have := Hlen.out; omega])
        have Hrd := Lib.hid (Rd.one wr v Hx)
        have HO1 := Lib.hid (hO.out.alloc (.cells #[.int .u8 v] 5))
        have HB1 := Lib.hid (HB.out.alloc HB.out.size (.cells #[.int .u8 v] 5))
        have Hj := Lib.hid hjn
        have hj47 : j + 1 ≤ 140737488355328 := by omega
        clear ev Hx hpl
        go_wp2_with (refine wpList_app rfl (.tmp 33) (.tmp 38) rfl w.heap.size A2 (some ⟨wr.heap.size, 0, none⟩) j c2 1 1 l2 [v] rfl rfl HO1.out Hrd.out hj47 (by have := HB.out.size; simp; omega) ?_; intro A3 c3 w3 hown3 _ hbel3 _)
        go_roundg (gk - 1)
        case measure => have := hgk.out; have := HK1.out; omega
        case rel => exact ⟨j + 1, A3, c3, _, by have := hgk.out; have := HK1.out; show gk - 1 + (j + 1) = _; omega, by have := HK1.out; omega, rfl, by go_num, Hnx, Lib.hid hown3, Lib.hid (HB1.out.trans hbel3)⟩
      · have hsub : IntKind.i64.wrap ((j : Int) - (N : Int)) = (j : Int) - (N : Int) := IntWalk.i64_in _ (by omega)
        have Hke := Hk.out
        rw [if_neg hm0] at Hke
        replace Hke := Lib.hid Hke
        by_cases hlt : (j : Int) - (N : Int) < many
        · skip
          have HK1 := Lib.hid (show j < K from by (have := Hke.out; omega))
          have Hx := getD_byteQ Hby.out j
          obtain ⟨p, hidx, hpc, hpl⟩ := (HR.out.below HB.out).index (c := c) hjn
          obtain ⟨v, ev⟩ : ∃ y, b.getD j 0 = y := ⟨_, rfl⟩
          rw [ev] at hpc Hx
          have Hnx := Lib.hid (show b.take (j + 1) = l2 ++ [v] by rw [← hl2.out, List.take_add_one]; simp [show j < b.length by have := Hlen.out; omega]; rw [← ev]; simp [List.getD, show j < b.length by have := Hlen.out; omega])
          have Hrd := Lib.hid (Rd.one wr v Hx)
          have HO1 := Lib.hid (hO.out.alloc (.cells #[.int .u8 v] 5))
          have HB1 := Lib.hid (HB.out.alloc HB.out.size (.cells #[.int .u8 v] 5))
          have Hj := Lib.hid hjn
          have hj47 : j + 1 ≤ 140737488355328 := by omega
          clear ev Hx hpl
          go_wp2_with (refine wpList_app rfl (.tmp 33) (.tmp 38) rfl w.heap.size A2 (some ⟨wr.heap.size, 0, none⟩) j c2 1 1 l2 [v] rfl rfl HO1.out Hrd.out hj47 (by have := HB.out.size; simp; omega) ?_; intro A3 c3 w3 hown3 _ hbel3 _)
          go_roundg (gk - 1)
          case measure => have := hgk.out; have := HK1.out; omega
          case rel => exact ⟨j + 1, A3, c3, _, by have := hgk.out; have := HK1.out; show gk - 1 + (j + 1) = _; omega, by have := HK1.out; omega, rfl, by go_num, Hnx, Lib.hid hown3, Lib.hid (HB1.out.trans hbel3)⟩
        · skip
          obtain rfl : j = K := by (have := Hke.out; omega)
          have Hend := Lib.hid (show l2 = L by rw [← hl2.out]; rw [← HL.out]; unfold ofL; rw [HkO.out])
          have Hcap := Lib.hid (And.intro hO.out.cap hO.out.capMax)
          go_wp2_with fail
          go_ret
          exact ⟨A2, c2, rfl, Hcap.out.1, Hcap.out.2, by rw [← Hend.out]; exact hO.out, HB.out⟩
    · skip
      obtain rfl : j = K := by (have := Hk.out; split at this <;> omega)
      have Hend := Lib.hid (show l2 = L by rw [← hl2.out]; rw [← HL.out]; unfold ofL; rw [HkO.out])
      have Hcap := Lib.hid (And.intro hO.out.cap hO.out.capMax)
      go_wp2_with fail
      go_ret
      exact ⟨A2, c2, rfl, Hcap.out.1, Hcap.out.2, by rw [← Hend.out]; exact hO.out, HB.out⟩
end Go.Proofs.Ytoegfgbalcholaa
