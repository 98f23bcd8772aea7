/-
  Texts laid together: RefLay, RefNum, OptRead, OptsPut.
-/
import Derived.Test.YtoegfgbalcholaaZB17
import Derived.Test.YtoegfgbalcholaaZB10
import Derived.Test.YtoegfgbalcholaaZB15
import Derived.WalkMore
import Derived.Test.YtoegfgbalcholaaZB11
import Derived.Test.YtoegfgbalcholaaZB04

/-
  The contracts of culvertref03's Lay (four bytes) and of culvertref05's WithSacks.
-/
namespace Go.Proofs.Ytoegfgbalcholaa
set_option maxRecDepth 10000
open Go.RowKit

theorem bytes_app_ {a b : List Int} (h : ∀ x ∈ a, 0 ≤ x ∧ x < 256) (k : ∀ x ∈ b, 0 ≤ x ∧ x < 256) : ∀ x ∈ a ++ b, 0 ≤ x ∧ x < 256 := fun x hx => by
  rcases List.mem_append.1 hx with h' | h'
  · exact h x h'
  · exact k x h'
theorem own_ne {w : World} {B n c g : Nat} {A : Option Addr} {l : List Int} {cs : Array Value} (h : OwnB w B A n c l) (hg : w.heap[g]? = some (.cells cs 133 (0, 0))) : ∀ k, A = some ⟨k, 0, none⟩ → k ≠ g := by
  intro k e he
  subst he
  rcases h.2 with ⟨e1, _⟩ | ⟨g', cap, cur, e1, _, hb, _⟩
  · injection e1 with e1 _ _; rw [e] at e1; cases e1
  · injection e1 with e1 _ _
    rw [e] at e1
    injection e1 with e1
    injection e1 with e1 _
    subst e1
    rw [hg] at hb
    injection hb with hb
    injection hb with _ hb _
    exact absurd hb (by decide)
theorem OwnB.butA {S : Nat → Prop} {w w' : World} {B : Nat} {A : Option Addr} {n c : Nat} {l : List Int} (h : OwnB w B A n c l) (hb : But S w w') (hS : ∀ k, A = some ⟨k, 0, none⟩ → ¬ S k) : OwnB w' B A n c l := by
  refine ⟨h.1, ?_⟩
  rcases h.2 with h0 | ⟨g, cap, cur, e, hB, hc, hrest⟩
  · exact .inl h0
  · exact .inr ⟨g, cap, cur, e, hB, hb.blk hc (hS g (by injection e)), hrest⟩

end Go.Proofs.Ytoegfgbalcholaa

/-
  The contracts of culvertref03's reader (take, Num of four bytes) and of culvertref05's Sacks.
-/
namespace Go.Proofs.Ytoegfgbalcholaa
set_option maxRecDepth 10000
open Go.RowKit

theorem OwnK.butA {S : Nat → Prop} {t : TypeId} {w w' : World} {B : Nat} {A : Option Addr} {n c : Nat} {l : List (Int × Int)} (h : OwnK t w B A n c l) (hb : But S w w') (hS : ∀ k, A = some ⟨k, 0, none⟩ → ¬ S k) : OwnK t w' B A n c l := by
  refine ⟨h.1, ?_⟩
  rcases h.2 with h0 | ⟨g, cap, cur, e, hB, hc, hrest⟩
  · exact .inl h0
  · exact .inr ⟨g, cap, cur, e, hB, hb.blk hc (hS g (by injection e)), hrest⟩
theorem OwnK.blk {t : TypeId} {w : World} {B n c : Nat} {A : Option Addr} {l : List (Int × Int)} (h : OwnK t w B A n c l) : ∀ k, Blk A k → B ≤ k ∧ A = some ⟨k, 0, none⟩ := by
  rintro k ⟨a, e, rfl⟩
  subst e
  rcases h.2 with ⟨e1, _⟩ | ⟨g', cap, cur, e1, hB, _⟩
  · injection e1 with e1 _ _; cases e1
  · injection e1 with e1 _ _
    injection e1 with e1
    subst e1
    exact ⟨hB, rfl⟩
end Go.Proofs.Ytoegfgbalcholaa

/-
  The contracts of package opts' Parse: filling, option, the closure that reads, Parse.
-/
namespace Go.Proofs.Ytoegfgbalcholaa
set_option maxRecDepth 10000
open Go.RowKit

theorem OwnB.at_ {w : World} {B : Nat} {A : Option Addr} {n c k : Nat} {l : List Int} (h : OwnB w B A n c l) (hA : A = some ⟨k, 0, none⟩) : B ≤ k ∧ k < w.heap.size := by
  rcases h.2 with ⟨e, _⟩ | ⟨g, cap, cur, e, hB, hg, _⟩
  · injection e with e _ _; rw [hA] at e; cases e
  · injection e with e _ _
    rw [hA] at e
    injection e with e
    injection e with e _
    subst e
    exact ⟨hB, lt_of_block hg⟩

/-- Options whose bytes lie in rows of the call's own, from block B on. -/
def OptOwn (w : World) (B : Nat) (o : OptV) (l : Int × List Int) : Prop := o.kind = l.1 ∧ (0 ≤ o.kind ∧ o.kind < 256) ∧ (∀ x ∈ l.2, 0 ≤ x ∧ x < 256) ∧ OwnB w B o.A o.n o.c l.2
def OwnL (w : World) (B : Nat) : List OptV → List (Int × List Int) → Prop
  | [], [] => True
  | o :: os, l :: ls => OptOwn w B o l ∧ OwnL w B os ls
  | _, _ => False
theorem OptOwn.at_ {w : World} {B : Nat} {o : OptV} {l : Int × List Int} (h : OptOwn w B o l) : OptAt w o l := ⟨h.1, h.2.1, h.2.2.2.cap, h.2.2.2.capMax, h.2.2.2.rd h.2.2.1⟩
theorem OwnL.reads {w : World} {B : Nat} : ∀ {os : List OptV} {ls : List (Int × List Int)}, OwnL w B os ls → Reads w os ls
  | [], [], _ => trivial
  | _ :: _, _ :: _, h => ⟨h.1.at_, OwnL.reads h.2⟩
theorem OwnL.mono {w w' : World} {B B' : Nat} (hm : ∀ o l, OptOwn w B o l → OptOwn w' B' o l) : ∀ {os : List OptV} {ls : List (Int × List Int)}, OwnL w B os ls → OwnL w' B' os ls
  | [], [], _ => trivial
  | _ :: _, _ :: _, h => ⟨hm _ _ h.1, OwnL.mono hm h.2⟩
theorem OwnL.but {S : Nat → Prop} {w w' : World} {B : Nat} {os : List OptV} {ls : List (Int × List Int)} (h : OwnL w B os ls) (hb : But S w w') (hS : ∀ n c l k, OwnB w B (some ⟨k, 0, none⟩) n c l → ¬ S k) : OwnL w' B os ls :=
  h.mono fun _ _ h => ⟨h.1, h.2.1, h.2.2.1, h.2.2.2.butA hb (fun k e => by have h2 := h.2.2.2; rw [e] at h2; exact hS _ _ _ k h2)⟩
theorem OwnL.on {w w' : World} {B : Nat} {os : List OptV} {ls : List (Int × List Int)} (h : OwnL w B os ls) (hb : Below w.heap.size w w') : OwnL w' B os ls := h.mono fun _ _ h => ⟨h.1, h.2.1, h.2.2.1, h.2.2.2.on hb⟩
theorem OwnL.low {w : World} {B B' : Nat} {os : List OptV} {ls : List (Int × List Int)} (h : OwnL w B os ls) (hB : B' ≤ B) : OwnL w B' os ls := h.mono fun _ _ h => ⟨h.1, h.2.1, h.2.2.1, h.2.2.2.mono hB⟩
/-- The options' own row is none of their bytes' rows. -/
theorem own_apart {w : World} {B B2 n c n2 c2 k : Nat} {l : List Int} {A2 : Option Addr} {os : List OptV} (h : OwnB w B (some ⟨k, 0, none⟩) n c l) (ho : OwnO w B2 A2 n2 c2 os) : ¬ Blk A2 k := by
  rintro ⟨a, rfl, rfl⟩
  rcases ho.2 with ⟨e, _⟩ | ⟨g, cap, cur, e, hB, hg, _⟩
  · injection e with e _ _; cases e
  · injection e with e _ _
    injection e with e
    subst e
    exact own_ne h hg _ rfl rfl
theorem OwnL.grown {w w' : World} {B B2 n2 c2 : Nat} {os os2 : List OptV} {ls : List (Int × List Int)} {A2 : Option Addr} (h : OwnL w B os ls) (ho : OwnO w B2 A2 n2 c2 os2) (hg : w.grownBy w' (Value.slice A2 n2 c2).ownBlock) : OwnL w' B os ls :=
  h.but (grown_but hg) (fun _ _ _ _ h2 => own_apart h2 ho)
/-- Options told, their bytes in rows of the call's own. -/
def ParseOwn (b : List Int) (w : World) (e : Ending) (w' : World) : Prop :=
  ∃ A m c os, e = .returned (.tuple #[.slice A m c, .int .i64 (parseO b).2]) ∧ OwnO w' w.heap.size A m c os ∧ OwnL w' w.heap.size os (parseO b).1 ∧ Below w.heap.size w w'
theorem ParseOwn.told {b : List Int} {w w' : World} {e : Ending} (h : ParseOwn b w e w') : ParseO b w e w' := by
  obtain ⟨A, m, c, os, h1, h2, h3, h4⟩ := h
  exact ⟨A, m, c, os, h1, h2, h3.reads, h4⟩

/-- What the closure that reads options leaves: in block p the options, or how it gave up. -/
def ParseR (p : Nat) (b : List Int) (w1 : World) (x : Int) (w' : World) : Prop :=
  x = (parseL b).2 ∧ (x = 0 → ∃ A m c os, Box w' p 44 (.slice A m c) ∧ OwnO w' w1.heap.size A m c os ∧ OwnL w' w1.heap.size os (parseL b).1)

theorem OwnO.at_ {w : World} {B : Nat} {A : Option Addr} {n c k : Nat} {os : List OptV} (h : OwnO w B A n c os) (hA : A = some ⟨k, 0, none⟩) : B ≤ k ∧ k < w.heap.size := by
  rcases h.2 with ⟨e, _⟩ | ⟨g, cap, cur, e, hB, hg, _⟩
  · injection e with e _ _; rw [hA] at e; cases e
  · injection e with e _ _
    rw [hA] at e
    injection e with e
    injection e with e _
    subst e
    exact ⟨hB, lt_of_block hg⟩

/-- What the reading of options has so far. -/
structure PHold (w : World) (g p : Nat) (A : Option Addr) (m c : Nat) (os : List OptV) (acc : List (Int × List Int)) (wr : World) : Prop where
  box : Box wr p 44 (.slice A m c)
  own : OwnO wr w.heap.size A m c os
  ownl : OwnL wr w.heap.size os acc
  but : But (fun k => k = p ∨ k = g) w wr
theorem PHold.drew {w : World} {g p : Nat} {A : Option Addr} {m c : Nat} {os : List OptV} {acc : List (Int × List Int)} {wr : World} (h : PHold w g p A m c os acc wr) : PHold w g p A m c os acc wr.drew :=
  ⟨h.box.but ((But.refl (fun _ => False) _).drew) (fun x => x), h.own.drew, h.ownl.on (Below.drew (Below.refl _ _)), h.but.drew⟩
theorem PHold.step {w : World} {g p : Nat} {A : Option Addr} {m c : Nat} {os : List OptV} {acc : List (Int × List Int)} {wr w' : World} (h : PHold w g p A m c os acc wr) (hg : g < w.heap.size) (hpg : p ≠ g) (hb : But (fun k => k = g) wr w') : PHold w g p A m c os acc w' :=
  ⟨h.box.but hb hpg, h.own.but hb (fun k e => by have := h.own.at_ e; omega), h.ownl.but hb (fun _ _ _ k h2 => by have := h2.at_ rfl; omega), h.but.trans (hb.mono (fun _ _ h => .inr h))⟩
theorem PHold.fin {w : World} {B g p : Nat} {A : Option Addr} {m c : Nat} {os : List OptV} {b l : List Int} {at_ : Int} {acc : List (Int × List Int)} {wr : World} (h : PHold w g p A m c os acc wr) (hR : Rdr wr B g l at_) (he : parseL b = (acc, 0)) : Did (fun k => k = p) g (ParseR p b w) w (.returned (.tuple #[])) wr := by
  obtain ⟨A', n', c', _, _, _, _, _, hg, _⟩ := hR
  exact ⟨0, A', n', c', _, .inl ⟨rfl, rfl⟩, hg, h.but, by rw [he], fun _ => ⟨A, m, c, os, h.box, h.own, by rw [he]; exact h.ownl⟩⟩
end Go.Proofs.Ytoegfgbalcholaa

/-
  The contract of package opts' Put: whether options may be, and their bytes.
-/
namespace Go.Proofs.Ytoegfgbalcholaa
set_option maxRecDepth 10000
open Go.RowKit

theorem may1_any (kd : Int) (A : Option Addr) (n c : Nat) (w : World) :
    Calls Try.prog 90 #[.agg #[.int .u8 kd, .slice A n c]] w (OptBool (decide (kd = 0 ∨ kd = 1 ∨ 38 < n)) w) := by
  have hb : Below w.heap.size w (w.alloc (.cells #[.int .u8 kd, .slice A n c] 133)) := (Below.refl _ _).alloc (Nat.le_refl _) _
  have Hb := Lib.hid hb
  clear hb
  by_cases h0 : kd = 0
  · subst h0
    go_enter Try.func90, Try.ntmps90
    go_wp2_with fail
    go_ret
    exact ⟨by simp, Hb.out⟩
  · have h0' : (kd == 0) = false := by simpa using h0
    by_cases h1 : kd = 1
    · subst h1
      go_enter Try.func90, Try.ntmps90
      go_wp2_with fail
      go_ret
      exact ⟨by simp, Hb.out⟩
    · have h1' : (kd == 1) = false := by simpa using h1
      have Hx := Lib.hid (show decide (kd = 0 ∨ kd = 1 ∨ 38 < n) = decide (38 < (n : Int)) by simp [h0, h1]; omega)
      clear h0 h1
      go_enter Try.func90, Try.ntmps90
      go_wp2_with fail
      go_ret
      exact ⟨by rw [Hx.out]; rfl, Hb.out⟩

theorem badB_eq {kd : Int} {d : List Int} {n : Nat} (h0 : 0 ≤ kd) (hn : d.length = n) : decide (kd = 0 ∨ kd = 1 ∨ 38 < n) = badB (kd, d) := by
  unfold badB
  simp only [hn]
  by_cases h : kd < 2 <;> by_cases h2 : 38 < n <;> simp [h, h2] <;> omega

/-- Where the first is, of which a function says so, or -1. -/
def IdxIs (x : Bool) (w : World) (e : Ending) (w' : World) : Prop := ∃ i : Int, e = .returned (.int .i64 i) ∧ decide (0 ≤ i) = x ∧ Below w.heap.size w w'
theorem indexf_any (A : Option Addr) (n c : Nat) (os : List OptV) (ls : List (Int × List Int)) (w : World) (hn : n ≤ 140737488355328) (hr : RdO w A n os) (hs : Reads w os ls) :
    Calls Try.prog 91 #[.slice A n c, .func (.func 90) #[] #[]] w (IdxIs (ls.any badB) w) := by
  have Hl := Lib.hid (show ls.length = n by rw [← hs.len, hr.len])
  have Hr := Lib.hid hr
  have Hs := Lib.hid hs
  clear hr hs
  go_enter Try.func91, Try.ntmps91
  go_wp2_with fail
  go_loopg [8] n (fun gk i wr => ∃ j : Nat, Hid (gk + j = n) ∧ j ≤ n ∧ i = .int .i64 (j : Int) ∧ Hid ((ls.take j).any badB = false) ∧ Below w.heap.size w wr)
  case atStart => exact ⟨0, rfl, Nat.zero_le _, rfl, Lib.hid (by simp), Below.refl _ _⟩
  case round =>
    obtain ⟨j, hgk, hj, rfl, hno, hb⟩ := hrel
    by_cases hjn : j < n
    · have hjn := hjn
      obtain ⟨b1, p1, hrun1, hb1, hk0, hd0⟩ := Hr.out.index (c := c) hjn
      have o1 := Hs.out.get j (by rw [Hr.out.len]; exact hjn)
      obtain ⟨v1, ev1⟩ : ∃ v, os.getD j .none = v := ⟨_, rfl⟩
      obtain ⟨l1, el1⟩ : ∃ v, ls.getD j (0, []) = v := ⟨_, rfl⟩
      rw [ev1] at hk0 hd0 o1
      rw [el1] at o1
      obtain ⟨kd1, A1, n1, c1⟩ := v1
      obtain ⟨t1, d1⟩ := l1
      obtain ⟨rfl, hkb, hnc, hcm, r1⟩ := o1
      simp only at hk0 hd0 hkb hnc hcm r1
      have hk1 := (hb.cell (p := ⟨b1, p1, none⟩) hb1).trans hk0
      have hd1 := (hb.cell (p := ⟨b1, p1 + 1, none⟩) hb1).trans hd0
      have El1 := Lib.hid el1
      have Hd1 := Lib.hid r1.len
      have Hr1 := Lib.hid r1
      clear ev1 el1 r1 hk0 hd0
      have Hm := Lib.hid (may1_any kd1 A1 n1 c1 wr)
      rw [badB_eq hkb.1 Hd1.out] at Hm
      go_wp2_with fail
      refine Hm.out.mono ?_
      rintro e w2 ⟨rfl, hb2⟩
      have Hb2 := Lib.hid (hb.trans (hb2.mono hb.size))
      clear hb2
      by_cases hbad : badB (kd1, d1) = true
      · have Hany := Lib.hid (any_take (ls := ls) (j := j) (by rw [Hl.out]; exact hjn) (by rw [El1.out]; exact hbad))
        go_wp2_with fail
        go_ret
        exact ⟨j, rfl, by rw [Hany.out]; simp, Hb2.out⟩
      · have hbad' : badB (kd1, d1) = false := by simpa using hbad
        have Hno := Lib.hid (show (ls.take (j + 1)).any badB = false by rw [take_snoc_ ls j (0, []) (by rw [Hl.out]; exact hjn), List.any_append, hno.out, El1.out]; simp [hbad'])
        clear hbad
        go_wp2_with fail
        go_roundg (gk - 1)
        case measure => have := hgk.out; omega
        case rel => exact ⟨j + 1, by have := hgk.out; show gk - 1 + (j + 1) = _; omega, by omega, by go_num, Hno, Hb2.out⟩
    · obtain rfl : j = n := by omega
      have Hno := Lib.hid (show ls.any badB = false by have h := hno.out; rwa [List.take_of_length_le (by rw [Hl.out]; omega)] at h)
      go_wp2_with fail
      go_ret
      exact ⟨-1, rfl, by rw [Hno.out]; rfl, hb⟩

theorem containsf_any (A : Option Addr) (n c : Nat) (os : List OptV) (ls : List (Int × List Int)) (w : World) (hn : n ≤ 140737488355328) (hr : RdO w A n os) (hs : Reads w os ls) :
    Calls Try.prog 89 #[.slice A n c, .func (.func 90) #[] #[]] w (OptBool (ls.any badB) w) := by
  have Hi := Lib.hid (indexf_any A n c os ls w hn hr hs)
  clear hr hs
  go_enter Try.func89, Try.ntmps89
  go_wp2_with fail
  refine Hi.out.mono ?_
  rintro e w2 ⟨i, rfl, hx, hb⟩
  have Hx := Lib.hid hx
  have Hb := Lib.hid hb
  clear hx hb
  go_wp2_with fail
  go_ret
  exact ⟨by rw [← Hx.out]; rfl, Hb.out⟩

theorem mayall_any (A : Option Addr) (n c : Nat) (os : List OptV) (ls : List (Int × List Int)) (w : World) (hn : n ≤ 140737488355328) (hr : RdO w A n os) (hs : Reads w os ls) :
    Calls Try.prog 88 #[.slice A n c] w (OptBool (!ls.any badB) w) := by
  have Hi := Lib.hid (containsf_any A n c os ls w hn hr hs)
  clear hr hs
  go_enter Try.func88, Try.ntmps88
  go_wp2_with fail
  refine Hi.out.mono ?_
  rintro e w2 ⟨rfl, hb⟩
  have Hb := Lib.hid hb
  clear hb
  go_wp2_with fail
  go_ret
  exact ⟨rfl, Hb.out⟩

theorem bytesO_two (ls : List (Int × List Int)) : 2 * ls.length ≤ (bytesO ls).length := by
  induction ls with
  | nil => simp
  | cons l ls ih => simp only [bytesO, List.flatMap_cons, List.length_append, List.length_cons, bytesOne, List.length_nil] at ih ⊢; omega
theorem put_any (A : Option Addr) (n c : Nat) (os : List OptV) (ls : List (Int × List Int)) (w : World) (hn : n ≤ 140737488355328) (hr : RdO w A n os) (hs : Reads w os ls) :
    Calls Try.prog 80 #[.slice A n c] w (PutO ls w) := by
  have Hm := Lib.hid (mayall_any A n c os ls w hn hr hs)
  have Hl := Lib.hid (show ls.length = n by rw [← hs.len, hr.len])
  have Hr := Lib.hid hr
  have Hs := Lib.hid hs
  clear hr hs
  go_enter Try.func80, Try.ntmps80
  go_wp2_with fail
  refine Hm.out.mono ?_
  rintro e w2 ⟨rfl, hb⟩
  by_cases hany : ls.any badB = true
  · have Hany := Lib.hid hany
    have hany2 : (!ls.any badB) = false := by rw [hany]; rfl
    rw [hany2]
    clear hany hany2
    go_wp2_with fail
    go_ret2
    unfold PutO
    rw [if_pos Hany.out]
    exact ⟨rfl, hb⟩
  · have hany' : ls.any badB = false := by simpa using hany
    have Hany := Lib.hid hany
    have hany2 : (!ls.any badB) = true := by rw [hany']; rfl
    have hall : ∀ j, j < n → (ls.getD j (0, [])).2.length ≤ 38 := by
      intro j hj
      rw [List.any_eq_false] at hany'
      have hlt : j < ls.length := by rw [Hl.out]; exact hj
      have hm : ls.getD j (0, []) ∈ ls := by simp only [List.getD, List.getElem?_eq_getElem hlt, Option.getD_some]; exact List.getElem_mem _
      exact (badB_false (by simpa using hany' _ hm)).2
    have Hall := Lib.hid hall
    have Hmem := Lib.hid (show ∀ l ∈ ls, l.2.length ≤ 38 from fun l hl => (badB_false (by rw [List.any_eq_false] at hany'; simpa using hany' l hl)).2)
    rw [hany2]
    clear hany hany' hany2 hall
    go_wp2_with fail
    go_loopg [4, 15] n (fun gk lo i wr => ∃ (j m2 : Nat), Hid (gk + j = n) ∧ j ≤ n ∧ m2 ≤ 40 * j ∧ lo = .int .i64 (m2 : Int) ∧ i = .int .i64 (j : Int) ∧ Hid ((bytesO (ls.take j)).length = m2) ∧ Below w.heap.size w wr)
    case atStart => exact ⟨0, 0, rfl, Nat.zero_le _, Nat.le_refl _, rfl, rfl, Lib.hid (by simp [bytesO]), hb⟩
    case round =>
      clear hb
      obtain ⟨j, m2, hgk, hj, hmj, rfl, rfl, hm2, hb⟩ := hrel
      by_cases hjn : j < n
      · have hjn := hjn
        obtain ⟨b1, p1, hrun1, hb1, hk0, hd0⟩ := Hr.out.index (c := c) hjn
        have o1 := Hs.out.get j (by rw [Hr.out.len]; exact hjn)
        obtain ⟨v1, ev1⟩ : ∃ v, os.getD j .none = v := ⟨_, rfl⟩
        obtain ⟨l1, el1⟩ : ∃ v, ls.getD j (0, []) = v := ⟨_, rfl⟩
        rw [ev1] at hk0 hd0 o1
        rw [el1] at o1
        obtain ⟨kd1, A1, n1, c1⟩ := v1
        obtain ⟨t1, d1⟩ := l1
        obtain ⟨rfl, hkb, hnc, hcm, r1⟩ := o1
        simp only at hk0 hd0 hkb hnc hcm r1
        have hk1 := (hb.cell (p := ⟨b1, p1, none⟩) hb1).trans hk0
        have hd1 := (hb.cell (p := ⟨b1, p1 + 1, none⟩) hb1).trans hd0
        have El1 := Lib.hid el1
        have Hd1 := Lib.hid r1.len
        have Hr1 := Lib.hid r1
        clear ev1 el1 r1 hk0 hd0
        have h38 : n1 ≤ 38 := by have h := Hall.out j hjn; rw [El1.out] at h; have := Hd1.out; simp only at h; omega
        have hw1 : IntKind.i64.wrap (2 + (n1 : Int)) = 2 + (n1 : Int) := IntWalk.i64_in _ (by omega)
        have hw2 : IntKind.i64.wrap ((m2 : Int) + (2 + (n1 : Int))) = (m2 : Int) + (2 + (n1 : Int)) := IntWalk.i64_in _ (by omega)
        have Hsn := Lib.hid (show (bytesO (ls.take (j + 1))).length = m2 + (2 + n1) by
          have := Hd1.out
          rw [take_snoc_ ls j (0, []) (by rw [Hl.out]; exact hjn), bytesO_snoc, List.length_append, hm2.out, El1.out]; simp [bytesOne]; omega)
        go_wp2_with fail
        go_roundg (gk - 1)
        case measure => have := hgk.out; omega
        case rel => exact ⟨j + 1, m2 + (2 + n1), by have := hgk.out; show gk - 1 + (j + 1) = _; omega, by omega, by omega, by go_num, by go_num, Hsn, hb.alloc hb.size _⟩
      · obtain rfl : n = j := by omega
        have hlen2 : (bytesO ls).length = m2 := by have h := hm2.out; rwa [List.take_of_length_le (by rw [Hl.out]; omega)] at h
        have Hlen2 := Lib.hid hlen2
        clear hlen2 hm2
        by_cases hlong : 40 < m2
        · have hli : 40 < (m2 : Int) := by omega
          go_wp2_with fail
          go_ret2
          unfold PutO
          rw [if_neg Hany.out, if_pos (by rw [Hlen2.out]; exact hlong)]
          exact ⟨rfl, hb⟩
        · have hli : (m2 : Int) ≤ 40 := by omega
          have hn20 : n ≤ 20 := by have h := bytesO_two ls; rw [Hlen2.out, Hl.out] at h; omega
          clear hn
          go_wp2_with fail
          go_loopg [7, 30] n (fun gk b i wr => ∃ (j m3 : Nat) (A2 : Option Addr) (c2 : Nat), Hid (gk + j = n) ∧ j ≤ n ∧ m3 ≤ 40 * j ∧ b = .slice A2 m3 c2 ∧ i = .int .i64 (j : Int) ∧ Hid (OwnB wr w.heap.size A2 m3 c2 (bytesO (ls.take j))) ∧ Below w.heap.size w wr)
          case atStart => exact ⟨0, 0, none, 0, rfl, Nat.zero_le _, Nat.le_refl _, rfl, rfl, Lib.hid (by simpa [bytesO] using OwnB.nil wr w.heap.size), hb⟩
          case round =>
            clear hb hgk
            obtain ⟨j, m3, A2, c2, hgk, hj, hmj3, rfl, rfl, hown, hb⟩ := hrel
            by_cases hjn : j < n
            · have hjn := hjn
              obtain ⟨b1, p1, hrun1, hb1, hk0, hd0⟩ := Hr.out.index (c := c) hjn
              have o1 := Hs.out.get j (by rw [Hr.out.len]; exact hjn)
              obtain ⟨v1, ev1⟩ : ∃ v, os.getD j .none = v := ⟨_, rfl⟩
              obtain ⟨l1, el1⟩ : ∃ v, ls.getD j (0, []) = v := ⟨_, rfl⟩
              rw [ev1] at hk0 hd0 o1
              rw [el1] at o1
              obtain ⟨kd1, A1, n1, c1⟩ := v1
              obtain ⟨t1, d1⟩ := l1
              obtain ⟨rfl, hkb, hnc, hcm, r1⟩ := o1
              simp only at hk0 hd0 hkb hnc hcm r1
              have hk1 := (hb.cell (p := ⟨b1, p1, none⟩) hb1).trans hk0
              have hd1 := (hb.cell (p := ⟨b1, p1 + 1, none⟩) hb1).trans hd0
              have El1 := Lib.hid el1
              have Hd1 := Lib.hid r1.len
              have Hr1 := Lib.hid r1
              clear ev1 el1 r1 hk0 hd0
              have h38 : n1 ≤ 38 := by have h := Hall.out j hjn; rw [El1.out] at h; have := Hd1.out; simp only at h; omega
              have hw8 : IntKind.u8.wrap (2 + (n1 : Int)) = 2 + (n1 : Int) := by simp [IntKind.wrap, IntKind.bits, IntKind.signed]; omega
              have hw1 : IntKind.i64.wrap (2 + (n1 : Int)) = 2 + (n1 : Int) := IntWalk.i64_in _ (by omega)
              have Hbo := Lib.hid (show ∀ x ∈ bytesO (ls.take j), 0 ≤ x ∧ x < 256 from bytesO_bytes (fun l hl => Hs.out.byte l (List.mem_of_mem_take hl)) (fun l hl => Hmem.out l (List.mem_of_mem_take hl)))
              obtain ⟨g1, eg1⟩ : ∃ g1, wr.heap.size = g1 := ⟨_, rfl⟩
              have hblk := heap_alloc_new wr (.cells #[.int .u8 kd1, .slice A1 n1 c1] 133)
              rw [eg1] at hblk
              have hba : Below wr.heap.size wr (wr.alloc (.cells #[.int .u8 kd1, .slice A1 n1 c1] 133)) := (Below.refl _ _).alloc (Nat.le_refl _) _
              have Hu := Lib.hid (u8_lays A2 m3 c2 _ kd1 (wr.alloc (.cells #[.int .u8 kd1, .slice A1 n1 c1] 133)) hkb ⟨hown.out.cap, hown.out.capMax⟩ (by omega) ((hown.out.rd Hbo.out).below hba))
              have Hblk := Lib.hid hblk
              have Hba := Lib.hid (hb.trans (hba.mono hb.size))
              have hg1 : w.heap.size ≤ g1 := by have := hb.size; omega
              clear hblk hba
              go_wp2_with fail
              refine Hu.out.mono ?_
              rintro e w3 ⟨A3, c3, rfl, h31, h32, hown3, hb3⟩
              have hblk3 := blk_on Hblk.out hb3
              have Hbo3 := Lib.hid (show ∀ x ∈ bytesO (ls.take j) ++ [kd1], 0 ≤ x ∧ x < 256 from bytes_app_ Hbo.out (by simpa using hkb))
              have Hu3 := Lib.hid (u8_lays A3 (m3 + 1) c3 _ (2 + (n1 : Int)) w3 (by omega) ⟨h31, h32⟩ (by omega) (hown3.rd Hbo3.out))
              have c30 := blk_cell hblk3 0
              have c31 := blk_cell hblk3 1
              have Hblk3 := Lib.hid hblk3
              have Hb3 := Lib.hid (Hba.out.trans (hb3.mono Hba.out.size))
              clear hblk3 hown3 hb3
              go_wp2_with fail
              refine Hu3.out.mono ?_
              rintro e w4 ⟨A4, c4, rfl, h41, h42, hown4, hb4⟩
              have hblk4 := blk_on Hblk3.out hb4
              have c40 := blk_cell hblk4 0
              have c41 := blk_cell hblk4 1
              have Hb4 := Lib.hid (Hb3.out.trans (hb4.mono Hb3.out.size))
              have Hown4 := Lib.hid (hown4.mono Hb3.out.size)
              have Hr4 := Lib.hid (Hr1.out.below Hb4.out)
              clear hblk4 hown4 hb4 c30 c31
              go_wp2_with (refine wpList_app rfl (.tmp 45) (.tmp 47) rfl w.heap.size A4 A1 (m3 + 1 + 1) c4 n1 c1 _ d1 rfl rfl Hown4.out Hr4.out (by omega) Hb4.out.size ?_; intro A5 c5 w5 hown5 _ hb5 _)
              go_roundg (gk - 1)
              case measure => have := hgk.out; omega
              case rel => exact ⟨j + 1, m3 + 1 + 1 + n1, A5, c5, by have := hgk.out; show gk - 1 + (j + 1) = _; omega, by omega, by omega, rfl, by go_num, Lib.hid (by
                rw [take_snoc_ ls j (0, []) (by rw [Hl.out]; exact hjn), bytesO_snoc, El1.out, show bytesOne (kd1, d1) = [kd1] ++ [2 + (n1 : Int)] ++ d1 by unfold bytesOne; rw [Hd1.out]; rfl, ← List.append_assoc, ← List.append_assoc]; exact hown5), Hb4.out.trans hb5⟩
            · obtain rfl : n = j := by omega
              have ho := hown.out
              rw [List.take_of_length_le (by rw [Hl.out]; omega)] at ho
              have hm3 : m3 = m2 := by rw [← ho.len, Hlen2.out]
              subst hm3
              obtain ⟨B0, eB⟩ : ∃ B0, bytesO ls = B0 := ⟨_, rfl⟩
              rw [eB] at ho Hlen2
              have HB0 := Lib.hid (show ∀ x ∈ B0, 0 ≤ x ∧ x < 256 from by rw [← eB]; exact bytesO_bytes (fun l hl => Hs.out.byte l hl) Hmem.out)
              have EB := Lib.hid eB
              have Ho := Lib.hid ho
              clear ho eB hown
              obtain ⟨P, eP⟩ : ∃ P, (4 - m3 % 4) % 4 = P := ⟨_, rfl⟩
              have EP := Lib.hid eP
              have hP : P < 4 := by omega
              clear eP
              go_wp2_with fail
              go_loopg [7] P (fun gk b wr => ∃ (t : Nat) (A3 : Option Addr) (c3 : Nat), Hid (gk + t = P) ∧ t ≤ P ∧ b = .slice A3 (m3 + t) c3 ∧ Hid (OwnB wr w.heap.size A3 (m3 + t) c3 (B0 ++ List.replicate t 0)) ∧ Below w.heap.size w wr)
              case atStart => exact ⟨0, A2, c2, rfl, Nat.zero_le _, rfl, Lib.hid (by simpa using Ho.out), hb⟩
              case round =>
                clear hb hgk
                obtain ⟨t, A3, c3, hgt, ht, rfl, hown3, hb3⟩ := hrel
                have hp := EP.out
                by_cases htP : t < P
                · have hmod : ((m3 + t : Nat) : Int) % 4 ≠ 0 := by omega
                  have hmod2 : (((m3 + t : Nat) : Int) % 4 == 0) = false := by simpa using hmod
                  have hmod3 : (((m3 + t : Nat) : Int) % 4 != 0) = true := by simpa using hmod
                  have Hu := Lib.hid (u8_lays A3 (m3 + t) c3 _ 0 wr (by omega) ⟨hown3.out.cap, hown3.out.capMax⟩ (by omega) (hown3.out.rd (bytes_app_ HB0.out (fun x hx => by rw [List.eq_of_mem_replicate hx]; omega))))
                  clear hmod hp
                  go_wp2_with fail
                  refine Hu.out.mono ?_
                  rintro e w4 ⟨A4, c4, rfl, h41, h42, hown4, hb4⟩
                  have Hb4 := Lib.hid (hb3.trans (hb4.mono hb3.size))
                  have Hown4 := Lib.hid (hown4.mono hb3.size)
                  clear hown4 hb4
                  go_wp2_with fail
                  go_roundg (gk - 1)
                  case measure => have := hgt.out; omega
                  case rel => exact ⟨t + 1, A4, c4, by have := hgt.out; show gk - 1 + (t + 1) = _; omega, by omega, rfl, Lib.hid (by rw [List.replicate_succ', ← List.append_assoc]; exact Hown4.out), Hb4.out⟩
                · obtain rfl : t = P := by omega
                  have hmod : ((m3 + t : Nat) : Int) % 4 = 0 := by omega
                  have hmod2 : (((m3 + t : Nat) : Int) % 4 == 0) = true := by simpa using hmod
                  have hmod3 : (((m3 + t : Nat) : Int) % 4 != 0) = false := by simpa using hmod
                  clear hmod hp
                  go_wp2_with fail
                  go_ret2
                  unfold PutO
                  rw [if_neg Hany.out, EB.out, if_neg (by rw [Hlen2.out]; exact hlong)]
                  have e : padTo4 B0 = B0 ++ List.replicate t 0 := by unfold padTo4; rw [Hlen2.out, EP.out]
                  have el : (padTo4 B0).length = m3 + t := by rw [e, List.length_append, Hlen2.out, List.length_replicate]
                  rw [el, e]
                  exact ⟨A3, c3, rfl, hown3.out, hb3⟩
end Go.Proofs.Ytoegfgbalcholaa
