/-
  Texts laid together: PkPut, InIpPut, TupVal, PkOff.
-/
import Derived.Test.YtoegfgbalcholaaZD27
import Derived.Test.YtoegfgbalcholaaZD26
import Derived.Test.YtoegfgbalcholaaZD04
import Derived.Test.YtoegfgbalcholaaZD06
import Derived.Test.YtoegfgbalcholaaZD05
import Derived.Laws.StructEq
import Derived.Test.YtoegfgbalcholaaZD25
import Derived.Test.YtoegfgbalcholaaZD16

/-
  Package packet's Put: a packet's bytes.
-/
namespace Go.Proofs.Ytoegfgbalcholaa
set_option maxRecDepth 10000
open Go.RowKit
set_option linter.unusedSimpArgs false
set_option linter.unusedVariables false
/-- Bytes of the call's own (or none), and an error. -/
def PutOwn9 (L : List Int) (m : Nat) (x : Int) (w : World) (e : Ending) (w' : World) : Prop := ∃ A c, e = .returned (.tuple #[.slice A m c, .int .i64 x]) ∧ (m ≤ c ∧ c ≤ maxLen) ∧ OwnB w' w.heap.size A m c L ∧ Rd w' A m L ∧ Below w.heap.size w w'
theorem PutOwn9.none_ {x : Int} {w : World} {e : Ending} {w' : World} (he : e = .returned (.tuple #[.slice none 0 0, .int .i64 x])) (hb : Below w.heap.size w w') : PutOwn9 [] 0 x w e w' := ⟨none, 0, he, ⟨Nat.le_refl _, by simp [maxLen]⟩, OwnB.nil _ _, Rd.nil _ _, hb⟩

theorem ipput_long (h : Hd) (A A' : Option Addr) (n c n' c' : Nat) (w : World) (hm : mayB h.tt n = true) (hn : n ≤ 40) (hn' : n' ≤ 140737488355328) (hl : 1500 < 20 + n + n') :
    Calls Try.prog 15 #[.agg #[.int .u8 h.to, .int .u16 h.id, .bool h.df, .int .u8 h.tt, .int .u8 h.pr, .int .u32 h.sr, .int .u32 h.ds, .slice A n c], .slice A' n' c'] w (NoneIs 3 w) := put_long h.to h.id h.tt h.pr h.sr h.ds h.df A A' n c n' c' w hm hn hn' hl
theorem ipput_ok (h : Hd) (A A' : Option Addr) (n c n' c' : Nat) (l : List Int) (w : World) (hh : HdNum h) (hm : mayB h.tt n = true) (hc : n ≤ c ∧ c ≤ maxLen) (hc' : n' ≤ c' ∧ c' ≤ maxLen) (hr : Rd w A n h.o) (hr' : Rd w A' n' l) (hn : n ≤ 40) (hl : 20 + n + n' ≤ 1500) :
    Calls Try.prog 15 #[.agg #[.int .u8 h.to, .int .u16 h.id, .bool h.df, .int .u8 h.tt, .int .u8 h.pr, .int .u32 h.sr, .int .u32 h.ds, .slice A n c], .slice A' n' c'] w (RowOk (20 + n + n') (hdB h l) w) := put_ok h.to h.id h.tt h.pr h.sr h.ds h.df A A' n c n' c' h.o l w hh.to hh.id hh.tt hh.pr hh.sr hh.ds hm hn hc hc' hl hr hr'

end Go.Proofs.Ytoegfgbalcholaa

/-
  ipv4.Put's answer in one contract (stage 16, written ahead).
-/
namespace Go.Proofs.Ytoegfgbalcholaa
set_option maxRecDepth 10000
open Go.RowKit
set_option linter.unusedSimpArgs false
set_option linter.unusedVariables false

theorem ipput16_any (h : Hd) (A A' : Option Addr) (n c n' c' : Nat) (l L : List Int) (m : Nat) (x : Int) (w : World) (hh : HdNum h) (hc : n ≤ c ∧ c ≤ maxLen) (hc' : n' ≤ c' ∧ c' ≤ maxLen) (hr : Rd w A n h.o) (hr' : Rd w A' n' l) (hn' : n' ≤ 140737488355328) (hx : errI h n' = x) (hL : (if x = 0 then hdB h l else []) = L) (hm : L.length = m) :
    Calls Try.prog 15 #[.agg #[.int .u8 h.to, .int .u16 h.id, .bool h.df, .int .u8 h.tt, .int .u8 h.pr, .int .u32 h.sr, .int .u32 h.ds, .slice A n c], .slice A' n' c'] w (PutOwn9 L m x w) := by
  have hol := hr.len
  have hll := hr'.len
  unfold errI at hx
  by_cases hm1 : mayB h.tt n = true
  · rw [hol, if_pos hm1] at hx
    have h40 : n ≤ 40 := by have := hm1; unfold mayB at this; simp at this; omega
    have h4 : n % 4 = 0 := by have := hm1; unfold mayB at this; simp at this; omega
    by_cases hl : 1500 < 20 + n + n'
    · rw [if_pos hl] at hx
      subst hx
      rw [if_neg (by decide)] at hL
      subst hL; subst hm
      exact (ipput_long h A A' n c n' c' w hm1 h40 hn' hl).mono fun e w' ⟨he, hb⟩ => PutOwn9.none_ he hb
    · rw [if_neg hl] at hx
      subst hx
      rw [if_pos rfl] at hL
      refine (ipput_ok h A A' n c n' c' l w hh hm1 hc hc' hr hr' h40 (by omega)).mono ?_
      rintro e w' ⟨A2, c2, he, k1, k2, ho, hb⟩
      have hf : HdFits h l.length := ⟨hh, hr.byte, by omega, by omega, by omega⟩
      have hby := hd_by hf hr'.byte
      have hlen := hd_len h l
      rw [hol, hll] at hlen
      rw [hL] at hby hlen ho
      have hmk : 20 + n + n' = m := by omega
      subst hmk
      exact ⟨A2, c2, he, ⟨k1, k2⟩, ho, ho.rd hby, hb⟩
  · rw [hol, if_neg hm1] at hx
    subst hx
    rw [if_neg (by decide)] at hL
    subst hL; subst hm
    exact (put_arg h.to h.id h.tt h.pr h.sr h.ds h.df A A' n c n' c' w (by simpa using hm1)).mono fun e w' ⟨he, hb⟩ => PutOwn9.none_ he hb
end Go.Proofs.Ytoegfgbalcholaa

/-
  Tuples (api.Tuple) as values: their cells, how the run holds one against another; two results of which the first is a tuple.
-/
namespace Go.Proofs.Ytoegfgbalcholaa
set_option maxRecDepth 10000
open Go.RowKit
set_option linter.unusedSimpArgs false
set_option linter.unusedVariables false

theorem cells5 {w : World} {g : Nat} {u0 u1 u2 u3 u4 : Value} {t : TypeId} (h : w.heap[g]? = some (.cells #[u0, u1, u2, u3, u4] t (0, 0))) : w.cell? ⟨g, 0, none⟩ = some u0 ∧ w.cell? ⟨g, 1, none⟩ = some u1 ∧ w.cell? ⟨g, 2, none⟩ = some u2 ∧ w.cell? ⟨g, 3, none⟩ = some u3 ∧ w.cell? ⟨g, 4, none⟩ = some u4 := ⟨by rw [blk_cell h]; rfl, by rw [blk_cell h]; rfl, by rw [blk_cell h]; rfl, by rw [blk_cell h]; rfl, by rw [blk_cell h]; rfl⟩
theorem set_blk {w : World} {q i : Nat} {C : Array Value} {t : TypeId} {fr : Nat × Nat} (h : w.heap[q]? = some (.cells C t fr)) (v : Value) : (w.setCell ⟨q, i, none⟩ v).heap[q]? = some (.cells (C.set! i v) t fr) := by
  simp [World.setCell, Array.getElem?_modify, h]
end Go.Proofs.Ytoegfgbalcholaa

/-
  Where a packet's rows do not lie: so that a store into a box leaves the packet as it reads. No function of the program.
-/
namespace Go.Proofs.Ytoegfgbalcholaa
set_option maxRecDepth 10000
open Go.RowKit

/-- A row of some bytes lies in no block of S. -/
def offR (S : Nat → Prop) (A : Option Addr) (n : Nat) : Prop := ∀ g o, A = some ⟨g, o, none⟩ → 0 < n → ¬ S g
theorem offR.zero (S : Nat → Prop) (A : Option Addr) : offR S A 0 := fun _ _ _ h => absurd h (by omega)
theorem offR.sub {S S' : Nat → Prop} {A : Option Addr} {n : Nat} (h : offR S A n) (hS : ∀ g, S' g → S g) : offR S' A n := fun g o e hn hs => h g o e hn (hS g hs)
theorem offR.cut {S : Nat → Prop} {A : Option Addr} {n m : Nat} (h : offR S A n) (hm : m ≤ n) : offR S A m := fun g o e hn => h g o e (by omega)
theorem OwnB.off {w : World} {B : Nat} {A : Option Addr} {n c : Nat} {l : List Int} (h : OwnB w B A n c l) : offR (fun g => g < B) A n := fun g o e hn hs => by
  subst e
  have := (World.ownsRow.lt h g rfl).1
  omega
theorem OwnO.off {w : World} {B : Nat} {A : Option Addr} {n c : Nat} {os : List OptV} (h : OwnO w B A n c os) : offR (fun g => g < B) A n := fun g o e hn hs => by
  subst e
  have := (World.ownsRow.lt h g rfl).1
  omega
theorem OwnL.off {w : World} {B : Nat} : ∀ {os : List OptV} {ls : List (Int × List Int)}, OwnL w B os ls → ∀ v ∈ os, offR (fun g => g < B) v.A v.n
  | [], _, _, v, hv => by cases hv
  | o :: os, l :: ls, h, v, hv => by
    rcases List.mem_cons.1 hv with rfl | hv
    · exact h.1.2.2.2.off
    · exact OwnL.off h.2 v hv
structure PkA.Off (a : PkA) (S : Nat → Prop) : Prop where
  h : offR S a.AH a.nH
  o : offR S a.AO a.nO
  os : ∀ v ∈ a.os, offR S v.A v.n
  d : offR S a.AD a.nD
  u : offR S a.AU a.nU
  m : offR S a.AM a.nM
theorem PkA.Off.sub {a : PkA} {S S' : Nat → Prop} (h : a.Off S) (hS : ∀ g, S' g → S g) : a.Off S' :=
  ⟨h.h.sub hS, h.o.sub hS, fun v hv => (h.os v hv).sub hS, h.d.sub hS, h.u.sub hS, h.m.sub hS⟩
theorem Rd.off {w : World} {A : Option Addr} {n : Nat} {l : List Int} (h : Rd w A n l) : offR (fun g => w.heap.size ≤ g) A n := fun g o e hn hs => by
  obtain ⟨b, o', e', hlt, _⟩ := h.at_ hn
  rw [e] at e'
  cases e'
  omega
theorem RdO.off {w : World} {A : Option Addr} {n : Nat} {os : List OptV} (h : RdO w A n os) : offR (fun g => w.heap.size ≤ g) A n := fun g o e hn hs => by
  obtain ⟨b, o', e', hlt, _⟩ := h.at_ hn
  rw [e] at e'
  cases e'
  omega
theorem Reads.off {w : World} : ∀ {os : List OptV} {ls : List (Int × List Int)}, Reads w os ls → ∀ v ∈ os, offR (fun g => w.heap.size ≤ g) v.A v.n
  | [], _, _, v, hv => by cases hv
  | o :: os, l :: ls, h, v, hv => by
    rcases List.mem_cons.1 hv with rfl | hv
    · exact h.1.2.2.2.2.off
    · exact Reads.off h.2 v hv
/-- What reads lies in memory that is there. -/
theorem PkRd.off {w : World} {p : Pk} {a : PkA} (h : PkRd w p a) : a.Off (fun g => w.heap.size ≤ g) := ⟨h.hr.off, h.sr.o.off, h.sr.os.off, h.sr.d.off, h.ur.off, h.mr.off⟩
theorem Rd.offBut {S : Nat → Prop} {w w' : World} {A : Option Addr} {n : Nat} {l : List Int} (h : Rd w A n l) (hb : But S w w') (ho : offR S A n) : Rd w' A n l := h.but hb ho
theorem RdO.offBut {S : Nat → Prop} {w w' : World} {A : Option Addr} {n : Nat} {os : List OptV} (h : RdO w A n os) (hb : But S w w') (ho : offR S A n) : RdO w' A n os :=
  ⟨h.len, fun h0 => by
    obtain ⟨g, o, e, hlt, hc⟩ := h.at_ h0
    exact ⟨g, o, e, hb.lt hlt, fun i hi => ⟨by rw [hb.cell (p := ⟨g, o + i * 2, none⟩) hlt (ho g o e h0)]; exact (hc i hi).1, by rw [hb.cell (p := ⟨g, o + (i * 2 + 1), none⟩) hlt (ho g o e h0)]; exact (hc i hi).2⟩⟩⟩
theorem Reads.offBut {S : Nat → Prop} {w w' : World} {os : List OptV} {ls : List (Int × List Int)} (h : Reads w os ls) (hb : But S w w') (ho : ∀ v ∈ os, offR S v.A v.n) : Reads w' os ls :=
  h.but hb (fun o hm b off e hn => ho o hm b off e hn)
theorem PkRd.but {S : Nat → Prop} {w w' : World} {p : Pk} {a : PkA} (h : PkRd w p a) (hb : But S w w') (ho : a.Off S) : PkRd w' p a :=
  ⟨h.hn, h.hc, h.hr.offBut hb ho.h, ⟨h.sr.num, h.sr.oc, h.sr.dc, h.sr.o.offBut hb ho.o, h.sr.os.offBut hb ho.os, h.sr.d.offBut hb ho.d⟩, h.un, h.uc, h.ur.offBut hb ho.u, h.mn, h.mc, h.mr.offBut hb ho.m⟩
end Go.Proofs.Ytoegfgbalcholaa
