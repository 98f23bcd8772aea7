/-
  Texts laid together: SegGood, WireRead, TcpPart, Blk.
-/
import Derived.Test.YtoegfgbalcholaaZC16
import Derived.Test.YtoegfgbalcholaaZC06
import Derived.Defers
import Derived.Recover
import Derived.Test.YtoegfgbalcholaaZC04
import Derived.Test.YtoegfgbalcholaaZC01
import Derived.Deep.Slices
import Derived.ChangeSame

/-
  The contract of culvertref06's Parse where nothing is wrong.
-/
namespace Go.Proofs.Ytoegfgbalcholaa
set_option maxRecDepth 10000
open Go.RowKit

end Go.Proofs.Ytoegfgbalcholaa

/-
  The contract of package wire's Read over a function value that is handed in: what the function does is asked as a premise.
-/
namespace Go.Proofs.Ytoegfgbalcholaa
set_option maxRecDepth 10000
open Go.RowKit

/-- The deferred function of during, of a frame that returns: the error is told, the reader is shut. -/
theorem catch_idle (g p q : Nat) (A : Option Addr) (n c : Nat) (at_ x y : Int) (w : World) (hpq : p ≠ q) (hgq : g ≠ q) (hgp : g ≠ p) (hg : w.heap[g]? = some (rdrBlock g A n c at_ x)) (hp : w.heap[p]? = some (.cells #[.pointer (some ⟨g, 0, none⟩)] 92 (0, 0))) (hq : w.heap[q]? = some (.cells #[.int .i64 y] 29 (0, 0))) :
    CallsD Try.prog 87 #[.pointer (some ⟨p, 0, none⟩), .pointer (some ⟨q, 0, none⟩)] .returning w fun e u' w' => e = .returned (.tuple #[]) ∧ u' = .returning ∧ w'.cell? ⟨q, 0, none⟩ = some (.int .i64 x) ∧ But (fun k => k = g ∨ k = q) w w' := by
  obtain ⟨c0, c1, c2, c3, f0, f1, f2, f3⟩ := rdrC hg
  have hpc : w.cell? ⟨p, 0, none⟩ = some (.pointer (some ⟨g, 0, none⟩)) := by simp [World.cell?, hp]
  have hqc : w.cell? ⟨q, 0, none⟩ = some (.int .i64 y) := by simp [World.cell?, hq]
  have hqf : w.frozen? ⟨q, 0, none⟩ = false := by simp [World.frozen?, hq]
  have hqp := hpq.symm
  have hqg := hgq.symm
  have hpg := hgp.symm
  have hsame := gave_same g
  have Hb : Hid (But (fun k => k = g ∨ k = q) w (((((w.setCell ⟨q, 0, none⟩ (.int .i64 x)).setCell ⟨g, 0, none⟩ (.pointer none)).setCell ⟨g, 1, none⟩ (.slice none 0 0)).setCell ⟨g, 2, none⟩ (.int .i64 0)).setCell ⟨g, 3, none⟩ (.int .i64 0))) :=
    (((((But.refl (fun k => k = g ∨ k = q) w).setCell (p := ⟨q, 0, none⟩) (.inr rfl) _).setCell (p := ⟨g, 0, none⟩) (.inl rfl) _).setCell (p := ⟨g, 1, none⟩) (.inl rfl) _).setCell (p := ⟨g, 2, none⟩) (.inl rfl) _).setCell (p := ⟨g, 3, none⟩) (.inl rfl) _
  refine callsD_of_wpS Try.func87 rfl fun c₀ cs hu => ?_
  simp only [Try.ntmps87, List.size_toArray, List.length_cons, List.length_nil, Nat.reduceAdd, Nat.reduceSub, Array.replicate_succ, Array.replicate_zero, List.push_toArray, List.append_toArray, List.nil_append, List.cons_append]
  apply wpS_seq
  refine wpS_of_wp ?_
  go_wp2_with fail
  refine (show Code.wpS _ _ _ _ _ _ from ?_)
  apply wpS_seq
  refine wpS_of_wp ?_
  go_wp2_with fail
  refine (show Code.wpS _ _ _ _ _ _ from ?_)
  apply wpS_seq
  apply wpS_region
  simp [wpOpsS, go_sem, recoverD, hu, Exit.thenS]
  apply wpS_seq
  refine wpS_of_wp ?_
  go_wp2_with fail
  refine (show Code.wpS _ _ _ _ _ _ from ?_)
  refine wpS_cond (t := false) rfl ?_
  simp only [Bool.false_eq_true, if_false]
  refine wpS_of_wp (wp_skip ?_)
  refine ⟨rfl, _, by cases c₀; simp_all, .tuple #[], by simp [results, Try.results87], rfl, rfl, ?_, Hb.out⟩
  go_simp
/-- The deferred function of during, of a frame that panics with the reader's own panic: the error is told, the reader is shut, and the panic is taken back. -/
theorem catch_gave (g p q : Nat) (A : Option Addr) (n c : Nat) (at_ x y : Int) (w : World) (hpq : p ≠ q) (hgq : g ≠ q) (hgp : g ≠ p) (hg : w.heap[g]? = some (rdrBlock g A n c at_ x)) (hp : w.heap[p]? = some (.cells #[.pointer (some ⟨g, 0, none⟩)] 92 (0, 0))) (hq : w.heap[q]? = some (.cells #[.int .i64 y] 29 (0, 0))) :
    CallsD Try.prog 87 #[.pointer (some ⟨p, 0, none⟩), .pointer (some ⟨q, 0, none⟩)] (.panicking (gaveUp g)) w fun e u' w' => e = .returned (.tuple #[]) ∧ u' = .panicking [{ v := .iface 124 (.agg #[.pointer (some ⟨g, 0, none⟩)]), recovered := true }] ∧ w'.cell? ⟨q, 0, none⟩ = some (.int .i64 x) ∧ But (fun k => k = g ∨ k = q) w w' := by
  obtain ⟨c0, c1, c2, c3, f0, f1, f2, f3⟩ := rdrC hg
  have hpc : w.cell? ⟨p, 0, none⟩ = some (.pointer (some ⟨g, 0, none⟩)) := by simp [World.cell?, hp]
  have hqc : w.cell? ⟨q, 0, none⟩ = some (.int .i64 y) := by simp [World.cell?, hq]
  have hqf : w.frozen? ⟨q, 0, none⟩ = false := by simp [World.frozen?, hq]
  have hqp := hpq.symm
  have hqg := hgq.symm
  have hpg := hgp.symm
  have hsame := gave_same g
  have Hb : Hid (But (fun k => k = g ∨ k = q) w (((((w.setCell ⟨q, 0, none⟩ (.int .i64 x)).setCell ⟨g, 0, none⟩ (.pointer none)).setCell ⟨g, 1, none⟩ (.slice none 0 0)).setCell ⟨g, 2, none⟩ (.int .i64 0)).setCell ⟨g, 3, none⟩ (.int .i64 0))) :=
    (((((But.refl (fun k => k = g ∨ k = q) w).setCell (p := ⟨q, 0, none⟩) (.inr rfl) _).setCell (p := ⟨g, 0, none⟩) (.inl rfl) _).setCell (p := ⟨g, 1, none⟩) (.inl rfl) _).setCell (p := ⟨g, 2, none⟩) (.inl rfl) _).setCell (p := ⟨g, 3, none⟩) (.inl rfl) _
  refine callsD_of_wpS Try.func87 rfl fun c₀ cs hu => ?_
  simp only [Try.ntmps87, List.size_toArray, List.length_cons, List.length_nil, Nat.reduceAdd, Nat.reduceSub, Array.replicate_succ, Array.replicate_zero, List.push_toArray, List.append_toArray, List.nil_append, List.cons_append]
  apply wpS_seq
  refine wpS_of_wp ?_
  go_wp2_with fail
  refine (show Code.wpS _ _ _ _ _ _ from ?_)
  apply wpS_seq
  refine wpS_of_wp ?_
  go_wp2_with fail
  refine (show Code.wpS _ _ _ _ _ _ from ?_)
  apply wpS_seq
  apply wpS_region
  simp [wpOpsS, go_sem, recoverD, hu, Exit.thenS]
  apply wpS_seq
  refine wpS_of_wp ?_
  go_wp2_with fail
  refine (show Code.wpS _ _ _ _ _ _ from ?_)
  refine wpS_cond (t := false) rfl ?_
  simp only [Bool.false_eq_true, if_false]
  refine wpS_of_wp (wp_skip ?_)
  refine ⟨rfl, _, rfl, .tuple #[], by simp [results, Try.results87], rfl, rfl, ?_, Hb.out⟩
  go_simp

/-- What a function that is handed to Read did: it came to its end, or the reader gave up with x (then it is as it gave up; 0: it did not); of what was there S and the reader have turned; R holds then. -/
def Did (S : Nat → Prop) (g : Nat) (R : Int → World → Prop) (w : World) (e : Ending) (w' : World) : Prop :=
  ∃ x A n c at_, ((e = .returned (.tuple #[]) ∧ x = 0) ∨ e = .panicked (gaveUp g)) ∧ w'.heap[g]? = some (rdrBlock g A n c at_ x) ∧ But (fun k => S k ∨ k = g) w w' ∧ R x w'

/-- What during tells. -/
def DuringIs (S : Nat → Prop) (g : Nat) (R : World → Int → World → Prop) (w : World) (e : Ending) (w' : World) : Prop :=
  ∃ x w1 w2, e = .returned (.int .i64 x) ∧ Below w.heap.size w w1 ∧ w1.heap.size = w.heap.size + 2 ∧ R w1 x w2 ∧ But (fun k => k = g ∨ (w.heap.size ≤ k ∧ k < w.heap.size + 2)) w2 w' ∧ But (fun k => S k ∨ k = g) w w'

theorem during_any (S : Nat → Prop) (B g F : Nat) (caps : Array Value) (l : List Int) (R : World → Int → World → Prop) (w : World) (hS : ∀ k, S k → k < w.heap.size) (hgw : g < w.heap.size) (h : Rdr w B g l 0)
    (hF : ∀ args W, (callFunc F args).run Try.prog W = .ok (.enter F args) W)
    (hdo : ∀ w1, Below w.heap.size w w1 → w1.heap.size = w.heap.size + 2 → Rdr w1 B g l 0 → Calls Try.prog F (#[.pointer (some ⟨g, 0, none⟩)] ++ caps) w1 (Did S g (R w1) w1)) :
    Calls Try.prog 74 #[.pointer (some ⟨g, 0, none⟩), .func (.func F) #[] caps] w (DuringIs S g R w) := by
  have hmf : ∀ (fn : Fn) (first cap : Array Value) (w : World), (Instr.makeFunc fn first cap).run Try.prog w = .ok (.func fn first cap) w := fun _ _ _ _ => rfl
  have hb0 : Below w.heap.size w ((w.alloc (.cells #[.pointer (some ⟨g, 0, none⟩)] 92)).alloc (.cells #[.int .i64 0] 29)) := ((Below.refl _ _).alloc (Nat.le_refl _) _).alloc (by simp) _
  have Hdo := Lib.hid (hdo _ hb0 (by simp) (h.below hb0))
  have Hb0 := Lib.hid hb0
  clear hb0 hdo
  go_enter_defers Try.func74, Try.ntmps74
  go_wp2_with fail
  refine Hdo.out.mono ?_
  rintro e w2 ⟨x, A, n, c, at_, he, hg, hb, hR⟩
  have hp2 : w2.heap[w.heap.size]? = some (.cells #[.pointer (some ⟨g, 0, none⟩)] 92 (0, 0)) := hb.blk (by rw [Below.heap_alloc _ _ _ (by simp)]; exact heap_alloc_new w _) (fun hh => by rcases hh with hh | hh; have := hS _ hh; omega; omega)
  have hq2 : w2.heap[w.heap.size + 1]? = some (.cells #[.int .i64 0] 29 (0, 0)) := hb.blk (by have := heap_alloc_new (w.alloc (.cells #[.pointer (some ⟨g, 0, none⟩)] 92)) (.cells #[.int .i64 0] 29); simpa using this) (fun hh => by rcases hh with hh | hh; have := hS _ hh; omega; omega)
  have hbw := But.trans2 (S := fun k => S k ∨ k = g) (But.of Hb0.out) hb (fun _ _ h => h)
  have hend : ∀ w3, w3.cell? ⟨w.heap.size + 1, 0, none⟩ = some (.int .i64 x) → But (fun k => k = g ∨ k = w.heap.size + 1) w2 w3 → DuringIs S g R w (.returned (.int .i64 x)) w3 := by
    intro w3 _ hb3
    refine ⟨x, _, w2, rfl, Hb0.out, by simp, hR, hb3.mono (fun k _ hk => by rcases hk with hk | hk; exact .inl hk; exact .inr (by omega)), But.trans2 hbw hb3 (fun k hk hh => by rcases hh with hh | hh; exact .inr hh; omega)⟩
  have Hend := Lib.hid hend
  have Hp2 := Lib.hid hp2
  have Hq2 := Lib.hid hq2
  have Hg := Lib.hid hg
  clear hp2 hq2 hg hbw hend hb hR
  rcases he with ⟨rfl, rfl⟩ | rfl
  · have hqc : w2.cell? ⟨w.heap.size + 1, 0, none⟩ = some (.int .i64 0) := by simp [World.cell?, Hq2.out]
    have hqf : w2.frozen? ⟨w.heap.size + 1, 0, none⟩ = false := by simp [World.frozen?, Hq2.out]
    go_wp2_with fail
    have hb0 : But (fun k => k = w.heap.size + 1) w2 (w2.setCell ⟨w.heap.size + 1, 0, none⟩ (.int .i64 0)) := (But.refl (fun k => k = w.heap.size + 1) w2).setCell (p := ⟨w.heap.size + 1, 0, none⟩) rfl _
    refine leaves_cons (f := 87) (args := #[.pointer (some ⟨w.heap.size, 0, none⟩), .pointer (some ⟨w.heap.size + 1, 0, none⟩)]) (by simp) (by simp [go_sem]) ?_
    refine (catch_idle g w.heap.size (w.heap.size + 1) A n c at_ 0 0 _ (by omega) (by omega) (by omega) (hb0.blk Hg.out (by omega)) (hb0.blk Hp2.out (by omega)) (by rw [setCell_block Hq2.out]; simp)).mono ?_
    rintro e u' w3 ⟨rfl, rfl, hc, hb⟩
    have Hb := Lib.hid (Hend.out w3 hc (But.trans (hb0.mono (fun k _ hk => .inr hk)) hb))
    clear hb hb0
    simp [Leaves, settle, results, go_sem, Try.results74, hc]
    exact Hb.out
  · refine leaves_cons (f := 87) (args := #[.pointer (some ⟨w.heap.size, 0, none⟩), .pointer (some ⟨w.heap.size + 1, 0, none⟩)]) (by simp) (by simp [go_sem]) ?_
    refine (catch_gave g w.heap.size (w.heap.size + 1) A n c at_ x 0 _ (by omega) (by omega) (by omega) Hg.out Hp2.out Hq2.out).mono ?_
    rintro e u' w3 ⟨rfl, rfl, hc, hb⟩
    have Hb := Lib.hid (Hend.out w3 hc hb)
    clear hb
    simp [Leaves, settle, results, go_sem, Try.results74, hc]
    exact Hb.out

/-- What Read tells: what the reader gave up with, or 0; R held when the function was done, and since then only what Read itself made has turned. -/
def ReadIs (S : Nat → Prop) (R : World → Int → World → Prop) (w : World) (e : Ending) (w' : World) : Prop :=
  ∃ x w1 w2, e = .returned (.int .i64 x) ∧ Below w.heap.size w w1 ∧ R w1 x w2 ∧ But (fun k => w.heap.size ≤ k ∧ k < w1.heap.size) w2 w' ∧ But S w w'

theorem slAt_own {w : World} {B : Nat} {A : Option Addr} {n c : Nat} {l : List Int} (h : OwnB w B A n c l) : SlAt A c ∧ ∀ b o, A = some ⟨b, o, none⟩ → B ≤ b ∧ b < w.heap.size := by
  rcases h.2 with ⟨e, _⟩ | ⟨g, cap, cur, e, hB, hg, _⟩
  · injection e with e1 _ e3
    subst e1; subst e3
    exact ⟨.inl ⟨rfl, rfl⟩, fun _ _ e => by cases e⟩
  · injection e with e1 _ _
    subst e1
    exact ⟨.inr ⟨g, 0, rfl⟩, fun _ _ e => by injection e with e; injection e with e _; rw [← e]; exact ⟨hB, lt_of_block hg⟩⟩

/-- A function that has a body is entered. -/
theorem enter_of {f : FuncId} {fn : Func} {c : Code} (hf : Try.prog.funcs[f]? = some fn) (hname : (fn.name == "runtime.NumGoroutine") = false) (hb : fn.body = some c) (args : Array Value) (W : World) : (callFunc f args).run Try.prog W = .ok (.enter f args) W := by
  have hn : ¬ fn.name = "runtime.NumGoroutine" := by simpa using hname
  simp [callFunc, hf, hb, hn, go_sem]

theorem func_nil (F : Nat) (caps : Array Value) (w : World) : (binOp .eql 103 (.func (.func F) #[] caps) .nilFunc).run Try.prog w = .ok (.bool false) w := by
  have h : ∀ d : Nat, (Op.equalIn (d + 1) 103 (.func (.func F) #[] caps) .nilFunc).run Try.prog w = .ok false w := fun d => by
    simp [Op.equalIn, run_underlying Try.underlying103]
  simp only [binOp]
  simp [Op.equal, Op.maxDepth, h 9999]

theorem read_any (S : Nat → Prop) (F n c : Nat) (caps : Array Value) (args : Nat → Array Value) (hargs : ∀ g, #[.pointer (some ⟨g, 0, none⟩)] ++ caps = args g) (A : Option Addr) (l : List Int) (R : World → Int → World → Prop) (w : World) (hS : ∀ k, S k → k < w.heap.size) (hn : n ≤ 140737488355328) (hr : Rd w A n l)
    (hF : ∀ args W, (callFunc F args).run Try.prog W = .ok (.enter F args) W)
    (hdo : ∀ w1 g, Below w.heap.size w w1 → w.heap.size ≤ g → g < w1.heap.size → Rdr w1 w.heap.size g l 0 → Calls Try.prog F (args g) w1 (Did S g (R w1) w1)) :
    Calls Try.prog 44 #[.slice A n c, .func (.func F) #[] caps] w (ReadIs S R w) := by
  have Hdo := Lib.hid hdo
  have Hcl := Lib.hid (clone_any A n c l w hn hr)
  have hnil := func_nil F caps
  have Hargs := Lib.hid hargs
  clear hargs
  have hbyte := hr.byte
  clear hdo hr
  go_enter Try.func44, Try.ntmps44
  go_wp2_with fail
  refine Hcl.out.mono ?_
  rintro e w1 ⟨A1, c1, rfl, hnc1, hc1, hown, hb1⟩
  have hs1 := slAt_own hown
  have hlen := hown.len
  have hba : Below w1.heap.size w1 (w1.alloc (rdrBlock w1.heap.size A1 n c1 0 0)) := (Below.refl _ _).alloc (Nat.le_refl _) _
  have hR : Rdr (w1.alloc (rdrBlock w1.heap.size A1 n c1 0 0)) w.heap.size w1.heap.size l 0 :=
    ⟨A1, n, c1, hnc1, hc1, hs1.1, ⟨hb1.size, hs1.2⟩, ⟨by omega, by omega⟩, heap_alloc_new w1 _, (hown.rd hbyte).below hba⟩
  have Hd := Lib.hid (during_any S w.heap.size w1.heap.size F caps l R (w1.alloc (rdrBlock w1.heap.size A1 n c1 0 0)) (fun k hk => by have := hS k hk; have := hb1.size; simp; omega) (by simp) hR hF
    (fun w2 h2 h2s h2r => by rw [Hargs.out]; exact Hdo.out w2 w1.heap.size (below_trans hb1 (below_trans hba h2)) hb1.size (by rw [h2s]; simp; omega) h2r))
  have Hb1 := Lib.hid hb1
  have Hba := Lib.hid hba
  clear hown hb1 hba hR hlen hs1 hbyte
  go_wp2_with fail
  refine Hd.out.mono ?_
  rintro e w2 ⟨x, wd, w3, rfl, hbd, hsd, hR, hb2, hb3⟩
  have Hx : Hid (ReadIs S R w (.returned (.int .i64 x)) w2) := by
    have hsz : (w1.alloc (rdrBlock w1.heap.size A1 n c1 0 0)).heap.size = w1.heap.size + 1 := by simp
    refine ⟨x, wd, w3, rfl, below_trans Hb1.out (below_trans Hba.out hbd), hR, ?_, ?_⟩
    · refine hb2.mono (fun k _ hk => ?_)
      have := Hb1.out.size
      rw [hsz] at hk hsd
      omega
    · refine But.trans2 (But.of (below_trans Hb1.out Hba.out)) hb3 (fun k hk hh => ?_)
      rcases hh with hh | hh
      · exact hh
      · have := Hb1.out.size; omega
  clear hR hb2 hb3 hbd hsd
  go_wp2_with fail
  go_ret
  exact Hx.out

end Go.Proofs.Ytoegfgbalcholaa

/-
  The contracts of package tcp's number, row and lay: function values that lay bytes behind a row of the caller's own, and a slice of them done one behind the other.
-/
namespace Go.Proofs.Ytoegfgbalcholaa
set_option maxRecDepth 10000
open Go.RowKit

/-- A row of the caller's own (from block B on), grown. -/
def GrownIs (B m : Nat) (l : List Int) (w : World) (e : Ending) (w' : World) : Prop := ∃ A c, e = .returned (.slice A m c) ∧ OwnB w' B A m c l ∧ Below B w w'
/-- A function value lays lk behind any row of its caller's own. -/
structure PartDo (F : FuncId) (caps : Array Value) (w : World) (lk : List Int) : Prop where
  ent : ∀ args W, (callFunc F args).run Try.prog W = .ok (.enter F args) W
  byte : Bytes lk
  run : ∀ (w1 : World) (B : Nat) (A : Option Addr) (n c m : Nat) (l : List Int), Below w.heap.size w w1 → w.heap.size ≤ B → B ≤ w1.heap.size → OwnB w1 B A n c l → Bytes l → n ≤ 100000 → lk.length ≤ 100000 → m = n + lk.length →
    Calls Try.prog F (#[.slice A n c] ++ caps) w1 (GrownIs B m (l ++ lk) w1)
theorem PartDo.on {F : FuncId} {caps : Array Value} {w w' : World} {lk : List Int} (h : PartDo F caps w lk) (hb : Below w.heap.size w w') : PartDo F caps w' lk :=
  ⟨h.ent, h.byte, fun w1 B A n c m l h1 h2 => h.run w1 B A n c m l (below_trans hb h1) (Nat.le_trans hb.size h2)⟩
/-- A function value is told that lays lk. -/
def MakesPart (lk : List Int) (w : World) (e : Ending) (w' : World) : Prop := ∃ F caps, e = .returned (.func (.func F) #[] caps) ∧ PartDo F caps w' lk ∧ Below w.heap.size w w'

/-- Two boxes that a call lays. -/
theorem two_boxes (w : World) (z : Nat) (hz : w.heap.size = z) (v0 v1 : Value) (t0 t1 : TypeId) (w1 : World) (hb : Below ((w.alloc (.cells #[v0] t0)).alloc (.cells #[v1] t1)).heap.size ((w.alloc (.cells #[v0] t0)).alloc (.cells #[v1] t1)) w1) :
    w1.cell? ⟨z, 0, none⟩ = some v0 ∧ w1.cell? ⟨z + 1, 0, none⟩ = some v1 := by
  subst hz
  have h0 := blk_on (g := w.heap.size) (by rw [Below.heap_alloc _ _ _ (by simp)]; exact heap_alloc_new w _) hb
  have h1 := blk_on (g := w.heap.size + 1) (by simpa using heap_alloc_new (w.alloc (.cells #[v0] t0)) (.cells #[v1] t1)) hb
  exact ⟨blk_cell h0 0, blk_cell h1 0⟩

theorem u8_part (x : Int) (w : World) (hx : 0 ≤ x ∧ x < 256) :
    Calls Try.prog 66 #[.func (.func 67) #[] #[], .int .u8 x] w (MakesPart [x] w) := by
  have hmf : ∀ (fn : Fn) (first cap : Array Value) (w : World), (Instr.makeFunc fn first cap).run Try.prog w = .ok (.func fn first cap) w := fun _ _ _ _ => rfl
  obtain ⟨z, hz⟩ : ∃ z, w.heap.size = z := ⟨_, rfl⟩
  have hb : Below w.heap.size w ((w.alloc (.cells #[.func (.func 67) #[] #[]] 117)).alloc (.cells #[.int .u8 x] 5)) := ((Below.refl _ _).alloc (Nat.le_refl _) _).alloc (by simp) _
  have hp : PartDo 83 #[.pointer (some ⟨z, 0, none⟩), .pointer (some ⟨z + 1, 0, none⟩)] ((w.alloc (.cells #[.func (.func 67) #[] #[]] 117)).alloc (.cells #[.int .u8 x] 5)) [x] := by
    refine ⟨enter_of Try.func83 (by kernel_rfl) rfl, by intro y hy; simp at hy; omega, fun w1 B A n c m l h1 h2 h3 hown hbl hn _ hm => ?_⟩
    obtain ⟨q0, q1⟩ := two_boxes w z hz _ _ _ _ w1 h1
    have Hu := Lib.hid (u8_lays A n c l x w1 hx ⟨hown.cap, hown.capMax⟩ (by omega) (hown.rd hbl))
    have H3 := Lib.hid h3
    have Hm := Lib.hid hm
    clear h1 h2 h3 hown hm
    show Calls Try.prog _ #[.slice A n c, .pointer (some ⟨z, 0, none⟩), .pointer (some ⟨z + 1, 0, none⟩)] w1 _
    go_enter Try.func83, Try.ntmps83
    go_wp2_with fail
    refine Hu.out.mono ?_
    rintro e w2 ⟨A2, c2, rfl, k1, k2, hown2, hb2⟩
    have Ho := Lib.hid (hown2.mono H3.out)
    have Hb := Lib.hid (hb2.mono H3.out)
    clear hown2 hb2
    go_wp2_with fail
    go_ret
    rw [Hm.out]
    exact ⟨A2, c2, rfl, Ho.out, Hb.out⟩
  have Hp := Lib.hid hp
  have Hb := Lib.hid hb
  clear hp hb
  go_enter Try.func66, Try.ntmps66
  go_wp2_with fail
  go_ret
  exact ⟨_, _, rfl, Hp.out, Hb.out⟩
theorem u16_part (x : Int) (w : World) (hx : 0 ≤ x ∧ x < 65536) :
    Calls Try.prog 63 #[.func (.func 37) #[] #[], .int .u16 x] w (MakesPart (be16 x) w) := by
  have hmf : ∀ (fn : Fn) (first cap : Array Value) (w : World), (Instr.makeFunc fn first cap).run Try.prog w = .ok (.func fn first cap) w := fun _ _ _ _ => rfl
  obtain ⟨z, hz⟩ : ∃ z, w.heap.size = z := ⟨_, rfl⟩
  have hb : Below w.heap.size w ((w.alloc (.cells #[.func (.func 37) #[] #[]] 84)).alloc (.cells #[.int .u16 x] 24)) := ((Below.refl _ _).alloc (Nat.le_refl _) _).alloc (by simp) _
  have hp : PartDo 81 #[.pointer (some ⟨z, 0, none⟩), .pointer (some ⟨z + 1, 0, none⟩)] ((w.alloc (.cells #[.func (.func 37) #[] #[]] 84)).alloc (.cells #[.int .u16 x] 24)) (be16 x) := by
    refine ⟨enter_of Try.func81 (by kernel_rfl) rfl, by intro y hy; simp [be16] at hy; omega, fun w1 B A n c m l h1 h2 h3 hown hbl hn _ hm => ?_⟩
    obtain ⟨q0, q1⟩ := two_boxes w z hz _ _ _ _ w1 h1
    have Hu := Lib.hid (u16_lays A n c l x w1 hx ⟨hown.cap, hown.capMax⟩ (by omega) (hown.rd hbl))
    have H3 := Lib.hid h3
    have Hm := Lib.hid hm
    clear h1 h2 h3 hown hm
    show Calls Try.prog _ #[.slice A n c, .pointer (some ⟨z, 0, none⟩), .pointer (some ⟨z + 1, 0, none⟩)] w1 _
    go_enter Try.func81, Try.ntmps81
    go_wp2_with fail
    refine Hu.out.mono ?_
    rintro e w2 ⟨A2, c2, rfl, k1, k2, hown2, hb2⟩
    have Ho := Lib.hid (hown2.mono H3.out)
    have Hb := Lib.hid (hb2.mono H3.out)
    clear hown2 hb2
    go_wp2_with fail
    go_ret
    rw [Hm.out]
    exact ⟨A2, c2, rfl, Ho.out, Hb.out⟩
  have Hp := Lib.hid hp
  have Hb := Lib.hid hb
  clear hp hb
  go_enter Try.func63, Try.ntmps63
  go_wp2_with fail
  go_ret
  exact ⟨_, _, rfl, Hp.out, Hb.out⟩
theorem u32_part (x : Int) (w : World) (hx : 0 ≤ x ∧ x < 4294967296) :
    Calls Try.prog 64 #[.func (.func 65) #[] #[], .int .u32 x] w (MakesPart (be32 x) w) := by
  have hmf : ∀ (fn : Fn) (first cap : Array Value) (w : World), (Instr.makeFunc fn first cap).run Try.prog w = .ok (.func fn first cap) w := fun _ _ _ _ => rfl
  obtain ⟨z, hz⟩ : ∃ z, w.heap.size = z := ⟨_, rfl⟩
  have hb : Below w.heap.size w ((w.alloc (.cells #[.func (.func 65) #[] #[]] 115)).alloc (.cells #[.int .u32 x] 23)) := ((Below.refl _ _).alloc (Nat.le_refl _) _).alloc (by simp) _
  have hp : PartDo 82 #[.pointer (some ⟨z, 0, none⟩), .pointer (some ⟨z + 1, 0, none⟩)] ((w.alloc (.cells #[.func (.func 65) #[] #[]] 115)).alloc (.cells #[.int .u32 x] 23)) (be32 x) := by
    refine ⟨enter_of Try.func82 (by kernel_rfl) rfl, by intro y hy; simp [be32] at hy; omega, fun w1 B A n c m l h1 h2 h3 hown hbl hn _ hm => ?_⟩
    obtain ⟨q0, q1⟩ := two_boxes w z hz _ _ _ _ w1 h1
    have Hu := Lib.hid (u32_lays A n c l x w1 hx ⟨hown.cap, hown.capMax⟩ (by omega) (hown.rd hbl))
    have H3 := Lib.hid h3
    have Hm := Lib.hid hm
    clear h1 h2 h3 hown hm
    show Calls Try.prog _ #[.slice A n c, .pointer (some ⟨z, 0, none⟩), .pointer (some ⟨z + 1, 0, none⟩)] w1 _
    go_enter Try.func82, Try.ntmps82
    go_wp2_with fail
    refine Hu.out.mono ?_
    rintro e w2 ⟨A2, c2, rfl, k1, k2, hown2, hb2⟩
    have Ho := Lib.hid (hown2.mono H3.out)
    have Hb := Lib.hid (hb2.mono H3.out)
    clear hown2 hb2
    go_wp2_with fail
    go_ret
    rw [Hm.out]
    exact ⟨A2, c2, rfl, Ho.out, Hb.out⟩
  have Hp := Lib.hid hp
  have Hb := Lib.hid hb
  clear hp hb
  go_enter Try.func64, Try.ntmps64
  go_wp2_with fail
  go_ret
  exact ⟨_, _, rfl, Hp.out, Hb.out⟩

theorem row_part (A' : Option Addr) (n' c' : Nat) (l' : List Int) (w : World) (hr : Rd w A' n' l') :
    Calls Try.prog 68 #[.slice A' n' c'] w (MakesPart l' w) := by
  have hmf : ∀ (fn : Fn) (first cap : Array Value) (w : World), (Instr.makeFunc fn first cap).run Try.prog w = .ok (.func fn first cap) w := fun _ _ _ _ => rfl
  obtain ⟨z, hz⟩ : ∃ z, w.heap.size = z := ⟨_, rfl⟩
  have hb : Below w.heap.size w (w.alloc (.cells #[.slice A' n' c'] 22)) := (Below.refl _ _).alloc (Nat.le_refl _) _
  have hp : PartDo 84 #[.pointer (some ⟨z, 0, none⟩)] (w.alloc (.cells #[.slice A' n' c'] 22)) l' := by
    refine ⟨enter_of Try.func84 (by kernel_rfl) rfl, hr.byte, fun w1 B A n c m l h1 h2 h3 hown hbl hn hk hm => ?_⟩
    have q0 := blk_cell (blk_on (heap_alloc_new w (.cells #[.slice A' n' c'] 22)) h1) 0
    rw [hz] at q0
    have Hr := Lib.hid (hr.below (below_trans hb h1))
    have Ho := Lib.hid hown
    have H3 := Lib.hid h3
    have hk' : n' ≤ 100000 := by rw [← hr.len]; exact hk
    have Hm := Lib.hid (show m = n + n' by rw [hm, hr.len])
    clear h1 h2 h3 hown hm hr
    show Calls Try.prog _ #[.slice A n c, .pointer (some ⟨z, 0, none⟩)] w1 _
    go_enter Try.func84, Try.ntmps84
    go_wp2_with (refine wpList_app rfl (.tmp 4) (.tmp 5) rfl B A A' n c n' c' _ l' rfl rfl Ho.out Hr.out (by omega) H3.out ?_; intro A2 c2 w2 hown2 _ hb2 _)
    go_ret
    rw [Hm.out]
    exact ⟨A2, c2, rfl, hown2, hb2⟩
  have Hp := Lib.hid hp
  have Hb := Lib.hid hb
  clear hp hb
  go_enter Try.func68, Try.ntmps68
  go_wp2_with fail
  go_ret
  exact ⟨_, _, rfl, Hp.out, Hb.out⟩

/-- A slice of function values that lay the lists ls. -/
structure RdP (w : World) (A : Option Addr) (n : Nat) (ls : List (List Int)) : Prop where
  len : ls.length = n
  at_ : 0 < n → ∃ b o, A = some ⟨b, o, none⟩ ∧ b < w.heap.size ∧ ∀ i, i < n → ∃ F caps, w.cell? ⟨b, o + i, none⟩ = some (.func (.func F) #[] caps) ∧ PartDo F caps w (ls.getD i [])
theorem RdP.index {w : World} {A : Option Addr} {n c : Nat} {ls : List (List Int)} (h : RdP w A n ls) {j : Nat} (hj : j < n) :
    ∃ p F caps, (∀ W : World, (Instr.indexAt 128 (.slice A n c) (.int .i64 (j : Int))).run Try.prog W = .ok (.pointer (some p)) W) ∧ p.block < w.heap.size ∧ w.cell? p = some (.func (.func F) #[] caps) ∧ PartDo F caps w (ls.getD j []) := by
  obtain ⟨b, o, rfl, hb, hc⟩ := h.at_ (by omega)
  have h0 : (0 : Int) ≤ (j : Int) := by omega
  have h1 : (j : Int) < (n : Int) := by omega
  obtain ⟨F, caps, e1, e2⟩ := hc j hj
  exact ⟨⟨b, o + j, none⟩, F, caps, fun W => by go_simp, hb, e1, e2⟩
theorem RdP.below {w w' : World} {A : Option Addr} {n : Nat} {ls : List (List Int)} (h : RdP w A n ls) (hb : Below w.heap.size w w') : RdP w' A n ls :=
  ⟨h.len, fun hn => by
    obtain ⟨b, o, e, hlt, hc⟩ := h.at_ hn
    refine ⟨b, o, e, Nat.lt_of_lt_of_le hlt hb.size, fun i hi => ?_⟩
    obtain ⟨F, caps, h1, h2⟩ := hc i hi
    exact ⟨F, caps, by rw [hb.cell (p := ⟨b, o + i, none⟩) hlt]; exact h1, h2.on hb⟩⟩
/-- A row of function values that the walk has just laid. -/
theorem RdP.row (w : World) (g : Nat) (hg : w.heap.size = g) (t : TypeId) (fr : Nat × Nat) (vs : List Value) (ls : List (List Int)) (n : Nat) (hn : ls.length = n)
    (h : ∀ i, i < ls.length → ∃ F caps, vs[i]? = some (.func (.func F) #[] caps) ∧ PartDo F caps w (ls.getD i [])) :
    RdP (w.alloc (.cells vs.toArray t fr)) (some ⟨g, 0, none⟩) n ls := by
  subst hg; subst hn
  refine ⟨rfl, fun _ => ⟨w.heap.size, 0, rfl, by simp, fun i hi => ?_⟩⟩
  obtain ⟨F, caps, h1, h2⟩ := h i hi
  refine ⟨F, caps, ?_, h2.on ((Below.refl _ _).alloc (Nat.le_refl _) _)⟩
  rw [World.cell?_alloc_mark]
  simpa using h1

theorem parts_any (A : Option Addr) (n c T : Nat) (ls : List (List Int)) (w : World) (hn : n ≤ 1000) (h : RdP w A n ls) (hT : ls.flatten.length = T) (hm : T ≤ 100000) :
    Calls Try.prog 62 #[.slice A n c] w (RowIs T ls.flatten w) := by
  have Hlen := Lib.hid h.len
  have HT := Lib.hid hT
  have Hh := Lib.hid h
  clear h hT
  go_enter Try.func62, Try.ntmps62
  go_wp2_with fail
  go_loopg [3, 8] n (fun gk s i wr => ∃ (j m : Nat) (A2 : Option Addr) (c2 : Nat), Hid (gk + j = n) ∧ j ≤ n ∧ i = .int .i64 (j : Int) ∧ m ≤ 100000 ∧ s = .slice A2 m c2 ∧ Hid (OwnB wr w.heap.size A2 m c2 (ls.take j).flatten) ∧ Hid (Bytes (ls.take j).flatten) ∧ Below w.heap.size w wr)
  case atStart => exact ⟨0, 0, none, 0, rfl, Nat.zero_le _, rfl, by omega, rfl, Lib.hid (OwnB.nil _ _), Lib.hid (by intro x hx; simp at hx), Below.refl _ _⟩
  case round =>
    obtain ⟨j, m, A2, c2, hgk, hj, rfl, hmj, rfl, hown, hby, hb⟩ := hrel
    by_cases hlt : j < n
    · obtain ⟨q, F, caps, hrunq, hqb, hcq0, hpd⟩ := Hh.out.index (c := c) hlt
      have hcq : wr.cell? q = some (.func (.func F) #[] caps) := by rw [hb.cell hqb]; exact hcq0
      have hf := flat_take ls j (by rw [Hlen.out]; exact hlt)
      have hsum : m + (ls.getD j []).length ≤ 100000 := by
        have h1 := hown.out.len
        have h3 := flat_len_le ls (j + 1)
        rw [hf, List.length_append, h1] at h3
        have := HT.out
        omega
      have hF := hpd.ent
      have Hrun := Lib.hid (hpd.run wr w.heap.size A2 m c2 _ _ hb (Nat.le_refl _) hb.size hown.out hby.out hmj (by omega) rfl)
      have Hby := Lib.hid (show Bytes (ls.take (j + 1)).flatten by rw [hf]; exact hby.out.app hpd.byte)
      rw [← hf] at Hrun
      obtain ⟨k, ek⟩ : ∃ k, (ls.getD j []).length = k := ⟨_, rfl⟩
      rw [ek] at Hrun hsum
      clear hf hpd hcq0 ek hown hby
      go_wp2_with fail
      refine Hrun.out.mono ?_
      rintro e w2 ⟨A3, c3, rfl, hown3, hb3⟩
      have Hown3 := Lib.hid hown3
      have Hb3 := Lib.hid (hb.trans hb3)
      clear hown3 hb3
      go_wp2_with fail
      go_roundg (gk - 1)
      case measure => have := hgk.out; omega
      case rel => exact ⟨j + 1, m + k, A3, c3, by have := hgk.out; show gk - 1 + (j + 1) = _; omega, by omega, by go_num, hsum, rfl, Hown3, Hby, Hb3.out⟩
    · obtain rfl : j = n := by omega
      have ho := hown.out
      rw [List.take_of_length_le (by rw [Hlen.out]; exact Nat.le_refl _)] at ho
      have hmT : m = T := by rw [← ho.len, HT.out]
      subst hmT
      have Ho := Lib.hid ho
      clear ho
      go_wp2_with fail
      go_ret
      exact ⟨A2, c2, rfl, Ho.out.cap, Ho.out.capMax, Ho.out, hb⟩
end Go.Proofs.Ytoegfgbalcholaa

/-
  Slices of blocks (two numbers of 32 bits each): what they hold ('RdK'), one of the call's own ('OwnK'), append, one that comes in. No function of the program.
-/
namespace Go.Proofs.Ytoegfgbalcholaa
set_option maxRecDepth 10000
open Go.ChangeShapes Go.WideShapes Go.ChangeAt Go.RowKit Go.Deep

def U32P (p : Int × Int) : Prop := (0 ≤ p.1 ∧ p.1 < 4294967296) ∧ (0 ≤ p.2 ∧ p.2 < 4294967296)
def blkCells (l : List (Int × Int)) : List Value := l.flatMap fun p => [.int .u32 p.1, .int .u32 p.2]
theorem blkCells_len (l : List (Int × Int)) : (blkCells l).length = l.length * 2 := by
  induction l with
  | nil => rfl
  | cons o os ih => simp [blkCells] at ih ⊢; omega
theorem blkCells_at (l : List (Int × Int)) (i : Nat) (h : i < l.length) : (blkCells l)[i * 2]? = some (.int .u32 (l.getD i (0, 0)).1) ∧ (blkCells l)[i * 2 + 1]? = some (.int .u32 (l.getD i (0, 0)).2) := by
  induction l generalizing i with
  | nil => simp at h
  | cons o os ih =>
    cases i with
    | zero => simp [blkCells]
    | succ i =>
      have := ih i (by simpa using h)
      have e : (i + 1) * 2 = i * 2 + 1 + 1 := by omega
      rw [e]
      simpa [blkCells] using this
structure RdK (w : World) (A : Option Addr) (n : Nat) (l : List (Int × Int)) : Prop where
  len : l.length = n
  u32 : ∀ p ∈ l, U32P p
  at_ : 0 < n → ∃ b o, A = some ⟨b, o, none⟩ ∧ b < w.heap.size ∧ ∀ i, i < n → w.cell? ⟨b, o + i * 2, none⟩ = some (.int .u32 (l.getD i (0, 0)).1) ∧ w.cell? ⟨b, o + (i * 2 + 1), none⟩ = some (.int .u32 (l.getD i (0, 0)).2)
theorem RdK.nil (w : World) (A : Option Addr) : RdK w A 0 [] := ⟨rfl, by simp, fun h => absurd h (by omega)⟩
theorem RdK.below {w w' : World} {A : Option Addr} {n : Nat} {l : List (Int × Int)} (h : RdK w A n l) (hb : Below w.heap.size w w') : RdK w' A n l :=
  ⟨h.len, h.u32, fun hn => by
    obtain ⟨b, o, e, hlt, hc⟩ := h.at_ hn
    exact ⟨b, o, e, Nat.lt_of_lt_of_le hlt hb.size, fun i hi => ⟨by rw [hb.cell (p := ⟨b, o + i * 2, none⟩) hlt]; exact (hc i hi).1, by rw [hb.cell (p := ⟨b, o + (i * 2 + 1), none⟩) hlt]; exact (hc i hi).2⟩⟩⟩
theorem RdK.take {w : World} {A : Option Addr} {n k : Nat} {l : List (Int × Int)} (h : RdK w A n l) (hk : k ≤ n) : RdK w A k (l.take k) := by
  refine ⟨by rw [List.length_take, h.len]; omega, fun p hp => h.u32 p (List.mem_of_mem_take hp), fun hn => ?_⟩
  obtain ⟨b, o, e, hlt, hc⟩ := h.at_ (by omega)
  refine ⟨b, o, e, hlt, fun i hi => ?_⟩
  have e2 : (l.take k).getD i (0, 0) = l.getD i (0, 0) := by simp [List.getD, List.getElem?_take_of_lt hi]
  rw [e2]; exact hc i (by omega)
theorem RdK.one (w : World) (g : Nat) (hg : w.heap.size = g) (t : TypeId) (fr : Nat × Nat) (x y : Int) (h : U32P (x, y)) : RdK (w.alloc (.cells #[.int .u32 x, .int .u32 y] t fr)) (some ⟨g, 0, none⟩) 1 [(x, y)] := by
  subst hg
  refine ⟨rfl, by simpa using h, fun _ => ⟨w.heap.size, 0, rfl, by simp, fun i hi => ?_⟩⟩
  obtain rfl : i = 0 := by omega
  simp only [World.cell?_alloc_mark]
  simp

/-- '.slice A n c' is a slice of blocks (of type t) that the call made, from block B on. -/
def OwnK (t : TypeId) (w : World) (B : Nat) (A : Option Addr) (n c : Nat) (l : List (Int × Int)) : Prop := w.ownsRow B t 2 (.slice A n c) n (blkCells l)
theorem OwnK.len {t : TypeId} {w : World} {B : Nat} {A : Option Addr} {n c : Nat} {l : List (Int × Int)} (h : OwnK t w B A n c l) : l.length = n := by
  have := h.1
  rw [blkCells_len] at this
  omega
theorem OwnK.cap {t : TypeId} {w : World} {B : Nat} {A : Option Addr} {n c : Nat} {l : List (Int × Int)} (h : OwnK t w B A n c l) : n ≤ c ∧ c ≤ maxLen := by
  rcases h.2 with ⟨e, rfl⟩ | ⟨g, cap, cur, e, _, _, hnc, hcm, _⟩
  · injection e with _ _ e3; subst e3; simp
  · injection e with _ _ e3; subst e3; exact ⟨hnc, hcm⟩
theorem OwnK.nil (t : TypeId) (w : World) (B : Nat) : OwnK t w B none 0 0 [] := World.ownsRow_nil w B t 2
theorem OwnK.rd {t : TypeId} {w : World} {B : Nat} {A : Option Addr} {n c : Nat} {l : List (Int × Int)} (h : OwnK t w B A n c l) (hl : ∀ p ∈ l, U32P p) : RdK w A n l := by
  refine ⟨h.len, hl, fun hn => ?_⟩
  rcases id h.2 with ⟨e, h0⟩ | ⟨g, cap, cur, e, _, hg, _⟩
  · omega
  · injection e with e1 e2 e3
    subst e1
    refine ⟨g, 0, rfl, lt_of_block hg, fun i hi => ?_⟩
    have hlen := h.len
    have hat := blkCells_at l i (by omega)
    rw [Nat.zero_add, Nat.zero_add]
    have h' : w.ownsRow B t 2 (.slice (some ⟨g, 0, none⟩) n c) n (blkCells l) := h
    exact ⟨by rw [World.ownsRow.cellAt h' _ (by omega)]; exact hat.1, by rw [World.ownsRow.cellAt h' _ (by omega)]; exact hat.2⟩
theorem OwnK.mono {t : TypeId} {w : World} {B B' : Nat} {A : Option Addr} {n c : Nat} {l : List (Int × Int)} (h : OwnK t w B A n c l) (hB : B' ≤ B) : OwnK t w B' A n c l := by
  refine ⟨h.1, ?_⟩
  rcases h.2 with h0 | ⟨g, cap, cur, e, hg, r⟩
  · exact .inl h0
  · exact .inr ⟨g, cap, cur, e, Nat.le_trans hB hg, r⟩
theorem OwnK.on {t : TypeId} {w w' : World} {B : Nat} {A : Option Addr} {n c : Nat} {l : List (Int × Int)} (h : OwnK t w B A n c l) (hb : Below w.heap.size w w') : OwnK t w' B A n c l := by
  refine ⟨h.1, ?_⟩
  rcases h.2 with h0 | ⟨g, cap, cur, e, hB, hc, hrest⟩
  · exact .inl h0
  · exact .inr ⟨g, cap, cur, e, hB, (hb.block g (lt_of_block hc)).trans hc, hrest⟩
theorem OwnK.form {t : TypeId} {w : World} {B : Nat} {v : Value} {n : Nat} {l : List (Int × Int)} (h : w.ownsRow B t 2 v n (blkCells l)) : ∃ A c, v = .slice A n c ∧ OwnK t w B A n c l := by
  rcases id h.2 with ⟨rfl, rfl⟩ | ⟨g, cap, cur, rfl, _⟩
  · exact ⟨none, 0, rfl, h⟩
  · exact ⟨_, _, rfl, h⟩
end Go.Proofs.Ytoegfgbalcholaa
