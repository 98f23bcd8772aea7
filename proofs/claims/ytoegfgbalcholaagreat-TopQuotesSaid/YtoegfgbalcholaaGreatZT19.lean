/-
  Texts laid together: InLoad, InNum, Sl, InRefChange.
-/
import Derived.Test.YtoegfgbalcholaaGreatZT05
import Derived.Test.YtoegfgbalcholaaGreatZT08
import Derived.Test.YtoegfgbalcholaaGreatZT18
import Derived.Test.YtoegfgbalcholaaGreatZT02
import Derived.Test.YtoegfgbalcholaaGreatZT01
import Derived.Test.YtoegfgbalcholaaGreatZT03
import Derived.Deep.CutRange
import Derived.Test.YtoegfgbalcholaaGreatZT06
import Derived.Deep.AppendSrc
import Derived.Test.YtoegfgbalcholaaGreatZT04

/-
  A payload laid with other addresses, ports, number: where it agrees with the first one (stage 16, written ahead): plain lists.
-/
namespace Go.Proofs.YtoegfgbalcholaaGreat
set_option maxRecDepth 10000
set_option linter.unusedSimpArgs false
set_option linter.unusedVariables false

structure LoadQ (pr sr ds sr' ds' sp dp q : Int) (P P' : List Int) : Prop where
  byte : Bytes P
  byte' : Bytes P'
  len : P.length = P'.length
  h8 : 8 ≤ P.length
  hF : 2 * qF pr 0 + 2 ≤ P.length
  agree : ∀ j, j / 2 ≠ qF pr 0 → j / 2 ∉ keysQ pr 0 → P.getD j 0 = P'.getD j 0
  sum : ((if pr = 1 then 0 else (sr' / 65536 + sr' % 65536 + ds' / 65536 + ds' % 65536) - (sr / 65536 + sr % 65536 + ds / 65536 + ds % 65536)) + (ws false P' - ws false P)) % 65535 = 0
  id : pr = 1 → wordL P' 2 = sp
  ports : pr ≠ 1 → wordL P' 0 = sp ∧ wordL P' 1 = dp
  num : pr = 6 → wordL P' 2 = q / 65536 ∧ wordL P' 3 = q % 65536
  nz : pr = 17 → wordL P (qF pr 0) ≠ 0
theorem segB_list (src dst : Int) (s : Seg) : segB src dst s = [s.sp / 256 % 256, s.sp % 256, s.dp / 256 % 256, s.dp % 256, s.sq / 16777216 % 256, s.sq / 65536 % 256, s.sq / 256 % 256, s.sq % 256, s.ak / 16777216 % 256, s.ak / 65536 % 256, s.ak / 256 % 256, s.ak % 256, offS s, s.fl, s.wn / 256 % 256, s.wn % 256, fieldS src dst s / 256 % 256, fieldS src dst s % 256, s.ug / 256 % 256, s.ug % 256] ++ (optB s ++ s.d) := by
  simp [segB, segHd, b2, b4]
theorem getD_behind (a b c : List Int) (h : a.length = b.length) (j : Nat) (hj : a.length ≤ j) : (a ++ c).getD j 0 = (b ++ c).getD j 0 := by
  simp only [List.getD]
  rw [List.getElem?_append_right hj, List.getElem?_append_right (by omega), h]
theorem seg_load (s : Seg) (sr ds sr' ds' sp dp q : Int) (hg : Good s) (h1 : 0 ≤ sr ∧ sr < 4294967296) (h2 : 0 ≤ ds ∧ ds < 4294967296) (h1' : 0 ≤ sr' ∧ sr' < 4294967296) (h2' : 0 ≤ ds' ∧ ds' < 4294967296) (hsp : 0 ≤ sp ∧ sp < 65536) (hdp : 0 ≤ dp ∧ dp < 65536) (hq : 0 ≤ q ∧ q < 4294967296) :
    LoadQ 6 sr ds sr' ds' sp dp q (segB sr ds s) (segB sr' ds' { s with sp := sp, dp := dp, sq := q }) ∧ Good { s with sp := sp, dp := dp, sq := q } := by
  have hg' : Good { s with sp := sp, dp := dp, sq := q } := ⟨⟨hsp, hdp, hq, hg.num.ak, hg.num.fl, hg.num.wn, hg.num.ug⟩, hg.os, hg.d, hg.ok⟩
  have hl1 := segB_len sr ds s
  have hl2 := segB_len sr' ds' { s with sp := sp, dp := dp, sq := q }
  have hll : lenB { s with sp := sp, dp := dp, sq := q } = lenB s := rfl
  have hm := hg.may.2.2
  have h20 : 20 ≤ lenB s := by unfold lenB; omega
  refine ⟨⟨hg.bytes sr ds, hg'.bytes sr' ds', by rw [hl1, hl2, hll], by rw [hl1]; omega, by rw [hl1]; unfold qF; simp; omega, fun j hF hk => ?_, ?_, fun h => by omega, fun _ => ?_, fun _ => ?_, fun h => by omega⟩, hg'⟩
  · have hF8 : j / 2 ≠ 8 := by unfold qF at hF; simpa using hF
    have hk4 : 4 ≤ j / 2 := by
      unfold keysQ at hk
      simp at hk
      omega
    rw [segB_list, segB_list]
    by_cases hj : j < 20
    · rcases (show j = 8 ∨ j = 9 ∨ j = 10 ∨ j = 11 ∨ j = 12 ∨ j = 13 ∨ j = 14 ∨ j = 15 ∨ j = 18 ∨ j = 19 by omega) with rfl | rfl | rfl | rfl | rfl | rfl | rfl | rfl | rfl | rfl <;> rfl
    · refine getD_behind _ _ _ ?_ j ?_
      · rfl
      · show 20 ≤ j
        omega
  · have g1 := (sumL_full16).1 (hg.sum sr ds)
    have g2 := (sumL_full16).1 (hg'.sum sr' ds')
    rw [ws_even _ _ (pseudo_even _ _ _ _), ws_pseudoU _ _ _ _ h1 h2 (by omega)] at g1
    rw [ws_even _ _ (pseudo_even _ _ _ _), ws_pseudoU _ _ _ _ h1' h2' (by rw [hll]; omega), hll] at g2
    rw [if_neg (by decide)]
    omega
  · rw [segB_list]
    unfold wordL
    exact ⟨by show sp / 256 % 256 * 256 + sp % 256 = sp; omega, by show dp / 256 % 256 * 256 + dp % 256 = dp; omega⟩
  · rw [segB_list]
    unfold wordL
    exact ⟨by show q / 16777216 % 256 * 256 + q / 65536 % 256 = q / 65536; omega, by show q / 256 % 256 * 256 + q % 256 = q % 65536; omega⟩
theorem dg_load (s : Dg) (sr ds sr' ds' sp dp q : Int) (hn : DgNum s) (hd : s.d.length ≤ 1472) (hb : ∀ x ∈ s.d, 0 ≤ x ∧ x < 256) (h1 : 0 ≤ sr ∧ sr < 4294967296) (h2 : 0 ≤ ds ∧ ds < 4294967296) (h1' : 0 ≤ sr' ∧ sr' < 4294967296) (h2' : 0 ≤ ds' ∧ ds' < 4294967296) (hsp : 0 ≤ sp ∧ sp < 65536) (hdp : 0 ≤ dp ∧ dp < 65536) :
    LoadQ 17 sr ds sr' ds' sp dp q (dgB sr ds s) (dgB sr' ds' { s with sp := sp, dp := dp }) ∧ DgNum { s with sp := sp, dp := dp } := by
  have hn' : DgNum { s with sp := sp, dp := dp } := ⟨hsp, hdp⟩
  have hl1 := dgB_len sr ds s
  have hl2 := dgB_len sr' ds' { s with sp := sp, dp := dp }
  simp only at hl2
  have hr := restU_nn hn hd hb
  have hr' := restU_nn hn' hd hb
  have hm := fieldU_mod sr ds s h1 h2 hd hr
  have hm' := fieldU_mod sr' ds' { s with sp := sp, dp := dp } h1' h2' hd hr'
  have hf : 0 < fieldU sr ds s ∧ fieldU sr ds s < 65536 := fldU_bd _
  refine ⟨⟨dgB_bytes sr ds hn hd hb, dgB_bytes sr' ds' hn' hd hb, by rw [hl1, hl2], by rw [hl1]; omega, by rw [hl1]; unfold qF; simp, fun j hF hk => ?_, ?_, fun h => by omega, fun _ => ?_, fun h => by omega, fun _ => ?_⟩, hn'⟩
  · have hF3 : j / 2 ≠ 3 := by unfold qF at hF; simpa using hF
    have hk2 : 2 ≤ j / 2 := by
      unfold keysQ at hk
      simp at hk
      omega
    rw [dgB_list, dgB_list]
    by_cases hj : j < 8
    · rcases (show j = 4 ∨ j = 5 by omega) with rfl | rfl <;> rfl
    · obtain ⟨k, rfl⟩ : ∃ k, j = k + 8 := ⟨j - 8, by omega⟩
      simp only [List.getD_cons_succ]
  · rw [ws_dgB, ws_dgB, if_neg (by decide)]
    simp only at hm'
    omega
  · rw [dgB_list]
    unfold wordL
    exact ⟨by show sp / 256 * 256 + sp % 256 = sp; omega, by show dp / 256 * 256 + dp % 256 = dp; omega⟩
  · rw [dgB_list]
    unfold wordL qF
    show fieldU sr ds s / 256 * 256 + fieldU sr ds s % 256 ≠ 0
    omega
theorem msg_load (s : Msg) (sr ds sr' ds' sp dp q : Int) (hn : MsgNum s) (hd : s.d.length ≤ 1472) (hb : ∀ x ∈ s.d, 0 ≤ x ∧ x < 256) (he : echoM s.ty s.cd = true) (hsp : 0 ≤ sp ∧ sp < 65536) :
    LoadQ 1 sr ds sr' ds' sp dp q (msgB s) (msgB (withM s sp)) ∧ MsgNum (withM s sp) ∧ (withM s sp).d = s.d := by
  have hw : withM s sp = ⟨s.ty, s.cd, 65536 * sp + s.rs % 65536, s.d⟩ := by unfold withM; rw [if_pos he]
  have hrs := hn.rs
  have hn' : MsgNum (withM s sp) := by rw [hw]; exact ⟨hn.ty, hn.cd, by simp only; omega⟩
  have hlist : ∀ m : Msg, msgB m = [m.ty, m.cd, fieldM m / 256, fieldM m % 256, m.rs / 16777216, m.rs / 65536 % 256, m.rs / 256 % 256, m.rs % 256] ++ m.d := fun m => by simp [msgB, headM, tailM, be16, be32]
  have hl1 := msgB_len s
  have hl2 := msgB_len (withM s sp)
  have hd2 : (withM s sp).d = s.d := by rw [hw]
  rw [hd2] at hl2
  have g1 := (sumL_full16).1 (sum_msgB hn hb)
  have g2 := (sumL_full16).1 (sum_msgB hn' (by rw [hd2]; exact hb))
  have hby : ∀ m : Msg, MsgNum m → (∀ x ∈ m.d, 0 ≤ x ∧ x < 256) → Bytes (msgB m) := fun m hm hx => by
    have hfm : 0 ≤ fieldM m ∧ fieldM m ≤ 65535 := by unfold fieldM; have := sumL_bd (headM m ++ (be16 0 ++ tailM m)); unfold U16 at this; omega
    have h3 := hm.ty; have h4 := hm.cd; have h5 := hm.rs
    rw [hlist m]
    intro x hx2
    rcases List.mem_append.1 hx2 with hx2 | hx2
    · simp only [List.mem_cons, List.not_mem_nil, or_false] at hx2
      rcases hx2 with rfl | rfl | rfl | rfl | rfl | rfl | rfl | rfl <;> omega
    · exact hx x hx2
  refine ⟨⟨hby s hn hb, hby _ hn' (by rw [hd2]; exact hb), by rw [hl1, hl2], by rw [hl1]; omega, by rw [hl1]; unfold qF; simp; omega, fun j hF hk => ?_, ?_, fun _ => ?_, fun h => absurd rfl h, fun h => by omega, fun h => by omega⟩, hn', hd2⟩
  · have hF1 : j / 2 ≠ 1 := by unfold qF at hF; simpa using hF
    have hk2 : j / 2 ≠ 2 := by
      unfold keysQ at hk
      simpa using hk
    rw [hw, hlist, hlist]
    by_cases hj : j < 8
    · rcases (show j = 0 ∨ j = 1 ∨ j = 6 ∨ j = 7 by omega) with rfl | rfl | rfl | rfl
      · rfl
      · rfl
      · show s.rs / 256 % 256 = (65536 * sp + s.rs % 65536) / 256 % 256; omega
      · show s.rs % 256 = (65536 * sp + s.rs % 65536) % 256; omega
    · refine getD_behind _ _ _ ?_ j ?_
      · rfl
      · show 8 ≤ j
        omega
  · rw [if_pos rfl]; omega
  · rw [hw, hlist]
    unfold wordL
    show (65536 * sp + s.rs % 65536) / 16777216 * 256 + (65536 * sp + s.rs % 65536) / 65536 % 256 = sp
    omega
end Go.Proofs.YtoegfgbalcholaaGreat

/-
  culvertref16's num: a number of so many bytes from a place on (stage 16, written ahead).
-/
namespace Go.Proofs.YtoegfgbalcholaaGreat
set_option maxRecDepth 10000
open Go.RowKit
set_option linter.unusedSimpArgs false
set_option linter.unusedVariables false

end Go.Proofs.YtoegfgbalcholaaGreat

/-
  Slices of numbers of one kind, from any place of their block on ('Sl'): read, written, cut at the front, appended to, cloned. No function of the program.
-/
namespace Go.Proofs.YtoegfgbalcholaaGreat
set_option maxRecDepth 10000
open Go.RowKit

/-- Block g holds from o on the numbers of l, room for c in all. -/
def Row (w : World) (T : TypeId) (k : IntKind) (g o : Nat) (l : List Int) (c : Nat) : Prop :=
  ∃ C, w.heap[g]? = some (.cells C T (0, 0)) ∧ o + c ≤ C.size ∧ l.length ≤ c ∧ c ≤ maxLen ∧ ∀ i, i < l.length → C[o + i]? = some (.int k (l.getD i 0))
/-- A slice that is none, or lies so in block g. -/
def Sl (w : World) (T : TypeId) (k : IntKind) (v : Value) (l : List Int) : Prop :=
  (v = .slice none 0 0 ∧ l = []) ∨ ∃ g o c, v = .slice (some ⟨g, o, none⟩) l.length c ∧ Row w T k g o l c

theorem Row.lt {w : World} {T : TypeId} {k : IntKind} {g o : Nat} {l : List Int} {c : Nat} (h : Row w T k g o l c) : g < w.heap.size := by
  obtain ⟨C, hg, _⟩ := h
  exact lt_of_block hg
theorem Row.cell {w : World} {T : TypeId} {k : IntKind} {g o : Nat} {l : List Int} {c : Nat} (h : Row w T k g o l c) {i : Nat} (hi : i < l.length) : w.cell? ⟨g, o + i, none⟩ = some (.int k (l.getD i 0)) := by
  obtain ⟨C, hg, _, _, _, hc⟩ := h
  rw [blk_cell hg]
  exact hc i hi
theorem Row.free {w : World} {T : TypeId} {k : IntKind} {g o : Nat} {l : List Int} {c : Nat} (h : Row w T k g o l c) (i : Nat) : w.frozen? ⟨g, i, none⟩ = false := by
  obtain ⟨C, hg, _⟩ := h
  exact blk_free hg i
theorem Row.there {w : World} {T : TypeId} {k : IntKind} {g o : Nat} {l : List Int} {c : Nat} (h : Row w T k g o l c) {i : Nat} (hi : i < c) : (w.cell? ⟨g, o + i, none⟩).isSome = true := by
  obtain ⟨C, hg, hC, _⟩ := h
  rw [blk_cell hg, Array.getElem?_eq_getElem (by omega)]
  rfl
theorem Row.of_block {w w' : World} {T : TypeId} {k : IntKind} {g o : Nat} {l : List Int} {c : Nat} (h : Row w T k g o l c) (hb : w'.heap[g]? = w.heap[g]?) : Row w' T k g o l c := by
  obtain ⟨C, hg, hr⟩ := h
  exact ⟨C, hb.trans hg, hr⟩
theorem Row.but {S : Nat → Prop} {w w' : World} {T : TypeId} {k : IntKind} {g o : Nat} {l : List Int} {c : Nat} (h : Row w T k g o l c) (hb : But S w w') (hn : ¬ S g) : Row w' T k g o l c :=
  h.of_block (hb.block g h.lt hn)
theorem heap_setCell_at {w : World} {g : Nat} {C : Array Value} {T : TypeId} {fr : Nat × Nat} (h : w.heap[g]? = some (.cells C T fr)) (j : Nat) (u : Value) : (w.setCell ⟨g, j, none⟩ u).heap[g]? = some (.cells (C.setIfInBounds j u) T fr) := by
  unfold World.setCell
  simp [Array.getElem?_modify, h]
theorem Row.set_ {w : World} {T : TypeId} {k : IntKind} {g o : Nat} {l : List Int} {c : Nat} (h : Row w T k g o l c) (j : Nat) (x : Int) : Row (w.setCell ⟨g, o + j, none⟩ (.int k x)) T k g o (l.set j x) c := by
  obtain ⟨C, hg, hC, hl, hm, hc⟩ := h
  refine ⟨_, heap_setCell_at hg _ _, by simpa using hC, by simpa using hl, hm, fun i hi => ?_⟩
  simp only [List.length_set] at hi
  have hci := hc i hi
  by_cases e : j = i
  · subst e
    simp [List.getD, hi, (show o + j < C.size by omega)]
  · rw [Array.getElem?_setIfInBounds_ne (by omega), hci]
    simp [List.getD, List.getElem?_set_ne e]
theorem Row.tail {w : World} {T : TypeId} {k : IntKind} {g o : Nat} {x : Int} {l : List Int} {c : Nat} (h : Row w T k g o (x :: l) c) : Row w T k g (o + 1) l (c - 1) := by
  obtain ⟨C, hg, hC, hl, hm, hc⟩ := h
  simp only [List.length_cons] at hl hc
  refine ⟨C, hg, by omega, by omega, by omega, fun i hi => ?_⟩
  have := hc (i + 1) (by omega)
  rw [show o + 1 + i = o + (i + 1) by omega, this]
  rfl
theorem Sl.nil (w : World) (T : TypeId) (k : IntKind) : Sl w T k (.slice none 0 0) [] := .inl ⟨rfl, rfl⟩
theorem Sl.form {w : World} {T : TypeId} {k : IntKind} {v : Value} {l : List Int} (h : Sl w T k v l) : ∃ A c, v = .slice A l.length c ∧ (0 < l.length → ∃ g o, A = some ⟨g, o, none⟩ ∧ Row w T k g o l c) := by
  rcases h with ⟨rfl, rfl⟩ | ⟨g, o, c, rfl, h⟩
  · exact ⟨_, _, rfl, fun h => by simp at h⟩
  · exact ⟨_, _, rfl, fun _ => ⟨g, o, rfl, h⟩⟩
theorem Sl.but {S : Nat → Prop} {w w' : World} {T : TypeId} {k : IntKind} {v : Value} {l : List Int} (h : Sl w T k v l) (hb : But S w w') (hn : ∀ g, v.ownBlock = some g → ¬ S g) : Sl w' T k v l := by
  rcases h with h | ⟨g, o, c, rfl, h⟩
  · exact .inl h
  · exact .inr ⟨g, o, c, rfl, h.but hb (hn g rfl)⟩
theorem Sl.lt {w : World} {T : TypeId} {k : IntKind} {v : Value} {l : List Int} (h : Sl w T k v l) {g : Nat} (hg : v.ownBlock = some g) : g < w.heap.size := by
  rcases h with ⟨rfl, _⟩ | ⟨g', o, c, rfl, h⟩
  · cases hg
  · injection hg with e
    subst e
    exact h.lt
/-- Its block has the elements' type. -/
theorem Sl.type {w : World} {T : TypeId} {k : IntKind} {v : Value} {l : List Int} (h : Sl w T k v l) {g : Nat} (hg : v.ownBlock = some g) : ∃ C, w.heap[g]? = some (.cells C T (0, 0)) := by
  rcases h with ⟨rfl, _⟩ | ⟨g', o, c, rfl, h⟩
  · cases hg
  · injection hg with e
    subst e
    obtain ⟨C, hC, _⟩ := h
    exact ⟨C, hC⟩
theorem Row.one {w : World} (T : TypeId) (k : IntKind) (x : Int) (g : Nat) (hg : w.heap.size = g) : Sl (w.alloc (.cells #[.int k x] T)) T k (.slice (some ⟨g, 0, none⟩) 1 1) [x] := by
  subst hg
  refine .inr ⟨_, 0, 1, rfl, _, heap_alloc_new w _, by simp, by simp, by simp [maxLen], fun i hi => ?_⟩
  simp at hi
  subst hi
  rfl
theorem Row.empty {w : World} (T : TypeId) (k : IntKind) (g : Nat) (hg : w.heap.size = g) : Sl (w.alloc (.cells #[] T)) T k (.slice (some ⟨g, 0, none⟩) 0 0) [] := by
  subst hg
  exact .inr ⟨_, 0, 0, rfl, _, heap_alloc_new w _, by simp, by simp, by simp [maxLen], fun i hi => by simp at hi⟩

end Go.Proofs.YtoegfgbalcholaaGreat

/-
  culvertref16's change: a word becomes another one, and the fields follow (stage 16, written ahead).
-/
namespace Go.Proofs.YtoegfgbalcholaaGreat
set_option maxRecDepth 10000
open Go.RowKit
set_option linter.unusedSimpArgs false
set_option linter.unusedVariables false

end Go.Proofs.YtoegfgbalcholaaGreat
