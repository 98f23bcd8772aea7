/-
  Texts laid together: InTwo, WireRead, Pseudo, Dg.
-/
import Derived.Test.YtoegfgbalcholaaZD09
import Derived.Test.YtoegfgbalcholaaZD06
import Derived.Defers
import Derived.Recover
import Derived.Test.YtoegfgbalcholaaZD05
import Derived.Test.YtoegfgbalcholaaZD02
import Derived.Test.YtoegfgbalcholaaZD01

/-
  Two packets with one header but for its addresses, laid: where they agree (stage 16, written ahead): plain lists.
-/
namespace Go.Proofs.Ytoegfgbalcholaa
set_option maxRecDepth 10000
set_option linter.unusedSimpArgs false
set_option linter.unusedVariables false

theorem sumL_full16 {l : List Int} : sumL l = 65535 ↔ 0 < ws false l ∧ ws false l % 65535 = 0 := by
  unfold sumL fold16
  constructor
  · intro h
    split at h
    · omega
    · exact ⟨by omega, by omega⟩
  · rintro ⟨h1, h2⟩
    rw [if_neg (by omega)]
    omega
/-- A header's bytes: the first twenty. -/
theorem hd_bytes (h : Hd) (P : List Int) : ∃ z u v : Int, z = 20 + h.o.length + P.length ∧ hdB h P = [64 + (20 + (h.o.length : Int)) / 4, h.to, z / 256, z % 256, h.id / 256, h.id % 256, flagsOf h.df / 256, flagsOf h.df % 256, h.tt, h.pr, u, v, h.sr / 16777216, h.sr / 65536 % 256, h.sr / 256 % 256, h.sr % 256, h.ds / 16777216, h.ds / 65536 % 256, h.ds / 256 % 256, h.ds % 256] ++ (h.o ++ P) := by
  obtain ⟨z, u, v, hz, e⟩ := packetL_cons h.to h.id h.df h.tt h.pr h.sr h.ds h.o P
  exact ⟨z, u, v, hz, e⟩
structure HdFits (h : Hd) (n : Nat) : Prop where
  num : HdNum h
  ob : ∀ x ∈ h.o, 0 ≤ x ∧ x < 256
  o40 : h.o.length ≤ 40
  o4 : h.o.length % 4 = 0
  long : 20 + h.o.length + n ≤ 1500
theorem hd_len (h : Hd) (P : List Int) : (hdB h P).length = 20 + h.o.length + P.length := by
  obtain ⟨z, u, v, hz, e⟩ := hd_bytes h P
  rw [e]; simp; omega
theorem hd_head (h : Hd) (P : List Int) (hf : HdFits h P.length) : (hdB h P).getD 0 0 / 16 = 4 ∧ qH (hdB h P) = (20 + h.o.length) / 2 ∧ (hdB h P).getD 9 0 = h.pr ∧ wordL (hdB h P) 3 % 8192 = 0 ∧
    wordL (hdB h P) 6 = h.sr / 65536 ∧ wordL (hdB h P) 7 = h.sr % 65536 ∧ wordL (hdB h P) 8 = h.ds / 65536 ∧ wordL (hdB h P) 9 = h.ds % 65536 := by
  obtain ⟨z, u, v, hz, e⟩ := hd_bytes h P
  have h1 := hf.num.sr; have h2 := hf.num.ds; have h3 := hf.o40; have h4 := hf.o4
  have hfl : flagsOf h.df = 16384 ∨ flagsOf h.df = 0 := by unfold flagsOf; cases h.df <;> simp
  unfold qH wordL
  rw [e]
  simp only [List.cons_append, List.nil_append, List.getD_cons_zero, List.getD_cons_succ, Nat.reduceMul, Nat.reduceAdd]
  refine ⟨by omega, by omega, trivial, ?_, by omega, by omega, by omega, by omega⟩
  rcases hfl with e | e <;> rw [e] <;> decide
theorem hd_rest (h : Hd) (P : List Int) (i : Nat) : (hdB h P).getD (20 + h.o.length + i) 0 = P.getD i 0 := by
  obtain ⟨z, u, v, hz, e⟩ := hd_bytes h P
  rw [e]
  simp only [List.getD]
  rw [List.getElem?_append_right (by simp; omega), List.getElem?_append_right (by simp; omega)]
  congr 2
  simp; omega
theorem hd_opts (h : Hd) (P : List Int) (i : Nat) (hi : i < h.o.length) : (hdB h P).getD (20 + i) 0 = h.o.getD i 0 := by
  obtain ⟨z, u, v, hz, e⟩ := hd_bytes h P
  rw [e]
  simp only [List.getD]
  rw [List.getElem?_append_right (by simp), List.getElem?_append_left (by simp; omega)]
  congr 2
  simp
theorem hd_drop (h : Hd) (P : List Int) : (hdB h P).drop (20 + h.o.length) = P := by
  refine bytes_ext (by rw [List.length_drop, hd_len]; omega) (fun i => ?_)
  rw [getD_dropQ, hd_rest]
/-- The two, side by side. -/
theorem two_hd {h : Hd} {sr ds : Int} {P P' : List Int} {H : Nat} (hf : HdFits h P.length) (hf' : HdFits { h with sr := sr, ds := ds } P'.length) (hl : P.length = P'.length) (hpr : h.pr = 6 ∨ h.pr = 17 ∨ h.pr = 1) (hH : 20 + h.o.length = 2 * H)
    (hb : Bytes (hdB h P)) (hb' : Bytes (hdB { h with sr := sr, ds := ds } P')) (h8 : 8 ≤ P.length) (hF : 2 * qF h.pr 0 + 2 ≤ P.length)
    (hs : sumL ((hdB h P).take (2 * H)) = 65535) (hs' : sumL ((hdB { h with sr := sr, ds := ds } P').take (2 * H)) = 65535)
    (hP : ∀ j, j / 2 ≠ qF h.pr 0 → j / 2 ∉ keysQ h.pr 0 → P.getD j 0 = P'.getD j 0)
    (hps : ((if h.pr = 1 then 0 else (sr / 65536 + sr % 65536 + ds / 65536 + ds % 65536) - (h.sr / 65536 + h.sr % 65536 + h.ds / 65536 + h.ds % 65536)) + (ws false P' - ws false P)) % 65535 = 0) :
    TwoQ h.pr H (hdB h P) (hdB { h with sr := sr, ds := ds } P') := by
  obtain ⟨a1, a2, a3, a4, a5, a6, a7, a8⟩ := hd_head h P hf
  obtain ⟨b1, b2, b3, b4, b5, b6, b7, b8⟩ := hd_head { h with sr := sr, ds := ds } P' hf'
  simp only at b5 b6 b7 b8
  have hla := hd_len h P
  have hlb := hd_len { h with sr := sr, ds := ds } P'
  simp only at hlb
  have hFs := qF_shift h.pr H
  have hda := hd_drop h P
  have hdb := hd_drop { h with sr := sr, ds := ds } P'
  simp only at hdb
  refine ⟨hb, hb', by rw [hla, hlb, hl], hpr, by omega, by rw [hla]; omega, by rw [hla]; omega, a3, by rw [a2]; omega, fun i hi hiF hik => ?_, ?_, ?_⟩
  · by_cases h20 : i < 20
    · obtain ⟨z, u, v, hz, e⟩ := hd_bytes h P
      obtain ⟨z', u', v', hz', e'⟩ := hd_bytes { h with sr := sr, ds := ds } P'
      have hzz : z = z' := by rw [hz, hz']; simp only; rw [hl]
      subst hzz
      rw [e, e']
      rcases (show i = 0 ∨ i = 1 ∨ i = 2 ∨ i = 3 ∨ i = 4 ∨ i = 5 ∨ i = 6 ∨ i = 7 ∨ i = 8 ∨ i = 9 by omega) with rfl | rfl | rfl | rfl | rfl | rfl | rfl | rfl | rfl | rfl <;> rfl
    · by_cases ho : i < 20 + h.o.length
      · obtain ⟨j, rfl⟩ : ∃ j, i = 20 + j := ⟨i - 20, by omega⟩
        have e1 := hd_opts h P j (by omega)
        have e2 := hd_opts { h with sr := sr, ds := ds } P' j (by simp only; omega)
        simp only at e2
        rw [e1, e2]
      · obtain ⟨j, rfl⟩ : ∃ j, i = 20 + h.o.length + j := ⟨i - (20 + h.o.length), by omega⟩
        have e1 := hd_rest h P j
        have e2 := hd_rest { h with sr := sr, ds := ds } P' j
        simp only at e2
        rw [e1, e2]
        refine hP j (fun e => hiF (by rw [hFs, ← e]; omega)) (fun hm => hik ?_)
        rw [keys_shift]
        exact List.mem_map.2 ⟨j / 2, hm, by omega⟩
  · have h1 := (sumL_full16).1 hs
    have h2 := (sumL_full16).1 hs'
    omega
  · rw [← hH, hda, hdb]
    unfold hsQ
    rw [a5, a6, a7, a8, b5, b6, b7, b8]
    by_cases h1 : h.pr = 1
    · rw [if_pos h1] at hps ⊢; omega
    · rw [if_neg h1] at hps ⊢; omega
end Go.Proofs.Ytoegfgbalcholaa

/-
  The contract of package wire's Read over a function value that is handed in: what the function does is asked as a premise.
-/
namespace Go.Proofs.Ytoegfgbalcholaa
set_option maxRecDepth 10000
open Go.RowKit

/-- The deferred function of during, of a frame that returns: the error is told, the reader is shut. -/
theorem catch_idle (g p q : Nat) (A : Option Addr) (n c : Nat) (at_ x y : Int) (w : World) (hpq : p ≠ q) (hgq : g ≠ q) (hgp : g ≠ p) (hg : w.heap[g]? = some (rdrBlock g A n c at_ x)) (hp : w.heap[p]? = some (.cells #[.pointer (some ⟨g, 0, none⟩)] 92 (0, 0))) (hq : w.heap[q]? = some (.cells #[.int .i64 y] 29 (0, 0))) :
    CallsD Try.prog 87 #[.pointer (some ⟨p, 0, none⟩), .pointer (some ⟨q, 0, none⟩)] .returning w fun e u' w' => e = .returned (.tuple #[]) ∧ u' = .returning ∧ w'.cell? ⟨q, 0, none⟩ = some (.int .i64 x) ∧ But (fun k => k = g ∨ k = q) w w' := by
  obtain ⟨c0, c1, c2, c3, f0, f1, f2, f3⟩ := rdrC hg
  have hpc : w.cell? ⟨p, 0, none⟩ = some (.pointer (some ⟨g, 0, none⟩)) := by simp [World.cell?, hp]
  have hqc : w.cell? ⟨q, 0, none⟩ = some (.int .i64 y) := by simp [World.cell?, hq]
  have hqf : w.frozen? ⟨q, 0, none⟩ = false := by simp [World.frozen?, hq]
  have hqp := hpq.symm
  have hqg := hgq.symm
  have hpg := hgp.symm
  have hsame := gave_same g
  have Hb : Hid (But (fun k => k = g ∨ k = q) w (((((w.setCell ⟨q, 0, none⟩ (.int .i64 x)).setCell ⟨g, 0, none⟩ (.pointer none)).setCell ⟨g, 1, none⟩ (.slice none 0 0)).setCell ⟨g, 2, none⟩ (.int .i64 0)).setCell ⟨g, 3, none⟩ (.int .i64 0))) :=
    (((((But.refl (fun k => k = g ∨ k = q) w).setCell (p := ⟨q, 0, none⟩) (.inr rfl) _).setCell (p := ⟨g, 0, none⟩) (.inl rfl) _).setCell (p := ⟨g, 1, none⟩) (.inl rfl) _).setCell (p := ⟨g, 2, none⟩) (.inl rfl) _).setCell (p := ⟨g, 3, none⟩) (.inl rfl) _
  refine callsD_of_wpS Try.func87 rfl fun c₀ cs hu => ?_
  simp only [Try.ntmps87, List.size_toArray, List.length_cons, List.length_nil, Nat.reduceAdd, Nat.reduceSub, Array.replicate_succ, Array.replicate_zero, List.push_toArray, List.append_toArray, List.nil_append, List.cons_append]
  apply wpS_seq
  refine wpS_of_wp ?_
  go_wp2_with fail
  refine (show Code.wpS _ _ _ _ _ _ from ?_)
  apply wpS_seq
  refine wpS_of_wp ?_
  go_wp2_with fail
  refine (show Code.wpS _ _ _ _ _ _ from ?_)
  apply wpS_seq
  apply wpS_region
  simp [wpOpsS, go_sem, recoverD, hu, Exit.thenS]
  apply wpS_seq
  refine wpS_of_wp ?_
  go_wp2_with fail
  refine (show Code.wpS _ _ _ _ _ _ from ?_)
  refine wpS_cond (t := false) rfl ?_
  simp only [Bool.false_eq_true, if_false]
  refine wpS_of_wp (wp_skip ?_)
  refine ⟨rfl, _, by cases c₀; simp_all, .tuple #[], by simp [results, Try.results87], rfl, rfl, ?_, Hb.out⟩
  go_simp
/-- The deferred function of during, of a frame that panics with the reader's own panic: the error is told, the reader is shut, and the panic is taken back. -/
theorem catch_gave (g p q : Nat) (A : Option Addr) (n c : Nat) (at_ x y : Int) (w : World) (hpq : p ≠ q) (hgq : g ≠ q) (hgp : g ≠ p) (hg : w.heap[g]? = some (rdrBlock g A n c at_ x)) (hp : w.heap[p]? = some (.cells #[.pointer (some ⟨g, 0, none⟩)] 92 (0, 0))) (hq : w.heap[q]? = some (.cells #[.int .i64 y] 29 (0, 0))) :
    CallsD Try.prog 87 #[.pointer (some ⟨p, 0, none⟩), .pointer (some ⟨q, 0, none⟩)] (.panicking (gaveUp g)) w fun e u' w' => e = .returned (.tuple #[]) ∧ u' = .panicking [{ v := .iface 124 (.agg #[.pointer (some ⟨g, 0, none⟩)]), recovered := true }] ∧ w'.cell? ⟨q, 0, none⟩ = some (.int .i64 x) ∧ But (fun k => k = g ∨ k = q) w w' := by
  obtain ⟨c0, c1, c2, c3, f0, f1, f2, f3⟩ := rdrC hg
  have hpc : w.cell? ⟨p, 0, none⟩ = some (.pointer (some ⟨g, 0, none⟩)) := by simp [World.cell?, hp]
  have hqc : w.cell? ⟨q, 0, none⟩ = some (.int .i64 y) := by simp [World.cell?, hq]
  have hqf : w.frozen? ⟨q, 0, none⟩ = false := by simp [World.frozen?, hq]
  have hqp := hpq.symm
  have hqg := hgq.symm
  have hpg := hgp.symm
  have hsame := gave_same g
  have Hb : Hid (But (fun k => k = g ∨ k = q) w (((((w.setCell ⟨q, 0, none⟩ (.int .i64 x)).setCell ⟨g, 0, none⟩ (.pointer none)).setCell ⟨g, 1, none⟩ (.slice none 0 0)).setCell ⟨g, 2, none⟩ (.int .i64 0)).setCell ⟨g, 3, none⟩ (.int .i64 0))) :=
    (((((But.refl (fun k => k = g ∨ k = q) w).setCell (p := ⟨q, 0, none⟩) (.inr rfl) _).setCell (p := ⟨g, 0, none⟩) (.inl rfl) _).setCell (p := ⟨g, 1, none⟩) (.inl rfl) _).setCell (p := ⟨g, 2, none⟩) (.inl rfl) _).setCell (p := ⟨g, 3, none⟩) (.inl rfl) _
  refine callsD_of_wpS Try.func87 rfl fun c₀ cs hu => ?_
  simp only [Try.ntmps87, List.size_toArray, List.length_cons, List.length_nil, Nat.reduceAdd, Nat.reduceSub, Array.replicate_succ, Array.replicate_zero, List.push_toArray, List.append_toArray, List.nil_append, List.cons_append]
  apply wpS_seq
  refine wpS_of_wp ?_
  go_wp2_with fail
  refine (show Code.wpS _ _ _ _ _ _ from ?_)
  apply wpS_seq
  refine wpS_of_wp ?_
  go_wp2_with fail
  refine (show Code.wpS _ _ _ _ _ _ from ?_)
  apply wpS_seq
  apply wpS_region
  simp [wpOpsS, go_sem, recoverD, hu, Exit.thenS]
  apply wpS_seq
  refine wpS_of_wp ?_
  go_wp2_with fail
  refine (show Code.wpS _ _ _ _ _ _ from ?_)
  refine wpS_cond (t := false) rfl ?_
  simp only [Bool.false_eq_true, if_false]
  refine wpS_of_wp (wp_skip ?_)
  refine ⟨rfl, _, rfl, .tuple #[], by simp [results, Try.results87], rfl, rfl, ?_, Hb.out⟩
  go_simp

/-- What a function that is handed to Read did: it came to its end, or the reader gave up with x (then it is as it gave up; 0: it did not); of what was there S and the reader have turned; R holds then. -/
def Did (S : Nat → Prop) (g : Nat) (R : Int → World → Prop) (w : World) (e : Ending) (w' : World) : Prop :=
  ∃ x A n c at_, ((e = .returned (.tuple #[]) ∧ x = 0) ∨ e = .panicked (gaveUp g)) ∧ w'.heap[g]? = some (rdrBlock g A n c at_ x) ∧ But (fun k => S k ∨ k = g) w w' ∧ R x w'

/-- What during tells. -/
def DuringIs (S : Nat → Prop) (g : Nat) (R : World → Int → World → Prop) (w : World) (e : Ending) (w' : World) : Prop :=
  ∃ x w1 w2, e = .returned (.int .i64 x) ∧ Below w.heap.size w w1 ∧ w1.heap.size = w.heap.size + 2 ∧ R w1 x w2 ∧ But (fun k => k = g ∨ (w.heap.size ≤ k ∧ k < w.heap.size + 2)) w2 w' ∧ But (fun k => S k ∨ k = g) w w'

theorem during_any (S : Nat → Prop) (B g F : Nat) (caps : Array Value) (l : List Int) (R : World → Int → World → Prop) (w : World) (hS : ∀ k, S k → k < w.heap.size) (hgw : g < w.heap.size) (h : Rdr w B g l 0)
    (hF : ∀ args W, (callFunc F args).run Try.prog W = .ok (.enter F args) W)
    (hdo : ∀ w1, Below w.heap.size w w1 → w1.heap.size = w.heap.size + 2 → Rdr w1 B g l 0 → Calls Try.prog F (#[.pointer (some ⟨g, 0, none⟩)] ++ caps) w1 (Did S g (R w1) w1)) :
    Calls Try.prog 74 #[.pointer (some ⟨g, 0, none⟩), .func (.func F) #[] caps] w (DuringIs S g R w) := by
  have hmf : ∀ (fn : Fn) (first cap : Array Value) (w : World), (Instr.makeFunc fn first cap).run Try.prog w = .ok (.func fn first cap) w := fun _ _ _ _ => rfl
  have hb0 : Below w.heap.size w ((w.alloc (.cells #[.pointer (some ⟨g, 0, none⟩)] 92)).alloc (.cells #[.int .i64 0] 29)) := ((Below.refl _ _).alloc (Nat.le_refl _) _).alloc (by simp) _
  have Hdo := Lib.hid (hdo _ hb0 (by simp) (h.below hb0))
  have Hb0 := Lib.hid hb0
  clear hb0 hdo
  go_enter_defers Try.func74, Try.ntmps74
  go_wp2_with fail
  refine Hdo.out.mono ?_
  rintro e w2 ⟨x, A, n, c, at_, he, hg, hb, hR⟩
  have hp2 : w2.heap[w.heap.size]? = some (.cells #[.pointer (some ⟨g, 0, none⟩)] 92 (0, 0)) := hb.blk (by rw [Below.heap_alloc _ _ _ (by simp)]; exact heap_alloc_new w _) (fun hh => by rcases hh with hh | hh; have := hS _ hh; omega; omega)
  have hq2 : w2.heap[w.heap.size + 1]? = some (.cells #[.int .i64 0] 29 (0, 0)) := hb.blk (by have := heap_alloc_new (w.alloc (.cells #[.pointer (some ⟨g, 0, none⟩)] 92)) (.cells #[.int .i64 0] 29); simpa using this) (fun hh => by rcases hh with hh | hh; have := hS _ hh; omega; omega)
  have hbw := But.trans2 (S := fun k => S k ∨ k = g) (But.of Hb0.out) hb (fun _ _ h => h)
  have hend : ∀ w3, w3.cell? ⟨w.heap.size + 1, 0, none⟩ = some (.int .i64 x) → But (fun k => k = g ∨ k = w.heap.size + 1) w2 w3 → DuringIs S g R w (.returned (.int .i64 x)) w3 := by
    intro w3 _ hb3
    refine ⟨x, _, w2, rfl, Hb0.out, by simp, hR, hb3.mono (fun k _ hk => by rcases hk with hk | hk; exact .inl hk; exact .inr (by omega)), But.trans2 hbw hb3 (fun k hk hh => by rcases hh with hh | hh; exact .inr hh; omega)⟩
  have Hend := Lib.hid hend
  have Hp2 := Lib.hid hp2
  have Hq2 := Lib.hid hq2
  have Hg := Lib.hid hg
  clear hp2 hq2 hg hbw hend hb hR
  rcases he with ⟨rfl, rfl⟩ | rfl
  · have hqc : w2.cell? ⟨w.heap.size + 1, 0, none⟩ = some (.int .i64 0) := by simp [World.cell?, Hq2.out]
    have hqf : w2.frozen? ⟨w.heap.size + 1, 0, none⟩ = false := by simp [World.frozen?, Hq2.out]
    go_wp2_with fail
    have hb0 : But (fun k => k = w.heap.size + 1) w2 (w2.setCell ⟨w.heap.size + 1, 0, none⟩ (.int .i64 0)) := (But.refl (fun k => k = w.heap.size + 1) w2).setCell (p := ⟨w.heap.size + 1, 0, none⟩) rfl _
    refine leaves_cons (f := 87) (args := #[.pointer (some ⟨w.heap.size, 0, none⟩), .pointer (some ⟨w.heap.size + 1, 0, none⟩)]) (by simp) (by simp [go_sem]) ?_
    refine (catch_idle g w.heap.size (w.heap.size + 1) A n c at_ 0 0 _ (by omega) (by omega) (by omega) (hb0.blk Hg.out (by omega)) (hb0.blk Hp2.out (by omega)) (by rw [setCell_block Hq2.out]; simp)).mono ?_
    rintro e u' w3 ⟨rfl, rfl, hc, hb⟩
    have Hb := Lib.hid (Hend.out w3 hc (But.trans (hb0.mono (fun k _ hk => .inr hk)) hb))
    clear hb hb0
    simp [Leaves, settle, results, go_sem, Try.results74, hc]
    exact Hb.out
  · refine leaves_cons (f := 87) (args := #[.pointer (some ⟨w.heap.size, 0, none⟩), .pointer (some ⟨w.heap.size + 1, 0, none⟩)]) (by simp) (by simp [go_sem]) ?_
    refine (catch_gave g w.heap.size (w.heap.size + 1) A n c at_ x 0 _ (by omega) (by omega) (by omega) Hg.out Hp2.out Hq2.out).mono ?_
    rintro e u' w3 ⟨rfl, rfl, hc, hb⟩
    have Hb := Lib.hid (Hend.out w3 hc hb)
    clear hb
    simp [Leaves, settle, results, go_sem, Try.results74, hc]
    exact Hb.out

/-- What Read tells: what the reader gave up with, or 0; R held when the function was done, and since then only what Read itself made has turned. -/
def ReadIs (S : Nat → Prop) (R : World → Int → World → Prop) (w : World) (e : Ending) (w' : World) : Prop :=
  ∃ x w1 w2, e = .returned (.int .i64 x) ∧ Below w.heap.size w w1 ∧ R w1 x w2 ∧ But (fun k => w.heap.size ≤ k ∧ k < w1.heap.size) w2 w' ∧ But S w w'

theorem slAt_own {w : World} {B : Nat} {A : Option Addr} {n c : Nat} {l : List Int} (h : OwnB w B A n c l) : SlAt A c ∧ ∀ b o, A = some ⟨b, o, none⟩ → B ≤ b ∧ b < w.heap.size := by
  rcases h.2 with ⟨e, _⟩ | ⟨g, cap, cur, e, hB, hg, _⟩
  · injection e with e1 _ e3
    subst e1; subst e3
    exact ⟨.inl ⟨rfl, rfl⟩, fun _ _ e => by cases e⟩
  · injection e with e1 _ _
    subst e1
    exact ⟨.inr ⟨g, 0, rfl⟩, fun _ _ e => by injection e with e; injection e with e _; rw [← e]; exact ⟨hB, lt_of_block hg⟩⟩

/-- A function that has a body is entered. -/
theorem enter_of {f : FuncId} {fn : Func} {c : Code} (hf : Try.prog.funcs[f]? = some fn) (hname : (fn.name == "runtime.NumGoroutine") = false) (hb : fn.body = some c) (args : Array Value) (W : World) : (callFunc f args).run Try.prog W = .ok (.enter f args) W := by
  have hn : ¬ fn.name = "runtime.NumGoroutine" := by simpa using hname
  simp [callFunc, hf, hb, hn, go_sem]

theorem func_nil (F : Nat) (caps : Array Value) (w : World) : (binOp .eql 103 (.func (.func F) #[] caps) .nilFunc).run Try.prog w = .ok (.bool false) w := by
  have h : ∀ d : Nat, (Op.equalIn (d + 1) 103 (.func (.func F) #[] caps) .nilFunc).run Try.prog w = .ok false w := fun d => by
    simp [Op.equalIn, run_underlying Try.underlying103]
  simp only [binOp]
  simp [Op.equal, Op.maxDepth, h 9999]

theorem read_any (S : Nat → Prop) (F n c : Nat) (caps : Array Value) (args : Nat → Array Value) (hargs : ∀ g, #[.pointer (some ⟨g, 0, none⟩)] ++ caps = args g) (A : Option Addr) (l : List Int) (R : World → Int → World → Prop) (w : World) (hS : ∀ k, S k → k < w.heap.size) (hn : n ≤ 140737488355328) (hr : Rd w A n l)
    (hF : ∀ args W, (callFunc F args).run Try.prog W = .ok (.enter F args) W)
    (hdo : ∀ w1 g, Below w.heap.size w w1 → w.heap.size ≤ g → g < w1.heap.size → Rdr w1 w.heap.size g l 0 → Calls Try.prog F (args g) w1 (Did S g (R w1) w1)) :
    Calls Try.prog 44 #[.slice A n c, .func (.func F) #[] caps] w (ReadIs S R w) := by
  have Hdo := Lib.hid hdo
  have Hcl := Lib.hid (clone_any A n c l w hn hr)
  have hnil := func_nil F caps
  have Hargs := Lib.hid hargs
  clear hargs
  have hbyte := hr.byte
  clear hdo hr
  go_enter Try.func44, Try.ntmps44
  go_wp2_with fail
  refine Hcl.out.mono ?_
  rintro e w1 ⟨A1, c1, rfl, hnc1, hc1, hown, hb1⟩
  have hs1 := slAt_own hown
  have hlen := hown.len
  have hba : Below w1.heap.size w1 (w1.alloc (rdrBlock w1.heap.size A1 n c1 0 0)) := (Below.refl _ _).alloc (Nat.le_refl _) _
  have hR : Rdr (w1.alloc (rdrBlock w1.heap.size A1 n c1 0 0)) w.heap.size w1.heap.size l 0 :=
    ⟨A1, n, c1, hnc1, hc1, hs1.1, ⟨hb1.size, hs1.2⟩, ⟨by omega, by omega⟩, heap_alloc_new w1 _, (hown.rd hbyte).below hba⟩
  have Hd := Lib.hid (during_any S w.heap.size w1.heap.size F caps l R (w1.alloc (rdrBlock w1.heap.size A1 n c1 0 0)) (fun k hk => by have := hS k hk; have := hb1.size; simp; omega) (by simp) hR hF
    (fun w2 h2 h2s h2r => by rw [Hargs.out]; exact Hdo.out w2 w1.heap.size (below_trans hb1 (below_trans hba h2)) hb1.size (by rw [h2s]; simp; omega) h2r))
  have Hb1 := Lib.hid hb1
  have Hba := Lib.hid hba
  clear hown hb1 hba hR hlen hs1 hbyte
  go_wp2_with fail
  refine Hd.out.mono ?_
  rintro e w2 ⟨x, wd, w3, rfl, hbd, hsd, hR, hb2, hb3⟩
  have Hx : Hid (ReadIs S R w (.returned (.int .i64 x)) w2) := by
    have hsz : (w1.alloc (rdrBlock w1.heap.size A1 n c1 0 0)).heap.size = w1.heap.size + 1 := by simp
    refine ⟨x, wd, w3, rfl, below_trans Hb1.out (below_trans Hba.out hbd), hR, ?_, ?_⟩
    · refine hb2.mono (fun k _ hk => ?_)
      have := Hb1.out.size
      rw [hsz] at hk hsd
      omega
    · refine But.trans2 (But.of (below_trans Hb1.out Hba.out)) hb3 (fun k hk hh => ?_)
      rcases hh with hh | hh
      · exact hh
      · have := Hb1.out.size; omega
  clear hR hb2 hb3 hbd hsd
  go_wp2_with fail
  go_ret
  exact Hx.out

end Go.Proofs.Ytoegfgbalcholaa

/-
  The twelve bytes of the pseudo header, in a row of the call's own: the document's Pseudo (culvertref02); package sum's. (For the stages behind sum's: in place of SumPseudo, whose names clash with wire's.)
-/
namespace Go.Proofs.Ytoegfgbalcholaa
set_option maxRecDepth 10000
open Go.RowKit

def pseudoL (s d p n : Int) : List Int :=
  [s / 16777216 % 256, s / 65536 % 256, s / 256 % 256, s % 256, d / 16777216 % 256, d / 65536 % 256, d / 256 % 256, d % 256, 0, p, n / 256 % 256, n % 256]
theorem pseudo_byte (s d p n : Int) (hp : 0 ≤ p ∧ p < 256) : ∀ x ∈ pseudoL s d p n, 0 ≤ x ∧ x < 256 := by
  intro x hx
  simp only [pseudoL, List.mem_cons, List.mem_nil_iff, or_false] at hx
  omega
theorem pseudo_any (s d p n : Int) (w : World) (_hp : 0 ≤ p ∧ p < 256) :
    Calls Try.prog 43 #[.int .u32 s, .int .u32 d, .int .u8 p, .int .i64 n] w (RowIs 12 (pseudoL s d p n) w) := by
  go_enter Try.func43, Try.ntmps43
  go_wp2_with fail
  go_ret
  refine ⟨_, _, rfl, by omega, by simp [maxLen], ⟨rfl, .inr ⟨_, 12, _, rfl, Nat.le_refl _, heap_alloc_new w _, by omega, by simp [maxLen], rfl, rfl⟩⟩, (Below.refl _ _).alloc (Nat.le_refl _) _⟩

end Go.Proofs.Ytoegfgbalcholaa

/-
  Datagrams as numbers and a list.
-/
namespace Go.Proofs.Ytoegfgbalcholaa
set_option maxRecDepth 10000

/-- A datagram, plainly. -/
structure Dg where
  sp : Int
  dp : Int
  d : List Int
structure DgNum (s : Dg) : Prop where
  sp : 0 ≤ s.sp ∧ s.sp < 65536
  dp : 0 ≤ s.dp ∧ s.dp < 65536
end Go.Proofs.Ytoegfgbalcholaa
