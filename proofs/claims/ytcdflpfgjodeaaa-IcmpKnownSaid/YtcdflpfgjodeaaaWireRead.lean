/-
  The contract of package wire's Read over a function value that is handed in: what the function does is asked as a premise.
-/
import Derived.Test.YtcdflpfgjodeaaaWire
import Derived.Defers
import Derived.Recover
namespace Go.Proofs.Ytcdflpfgjodeaaa
set_option maxRecDepth 10000
open Go.RowKit

/-- The deferred function of during, of a frame that returns: the error is told, the reader is shut. -/
theorem catch_idle (g p q : Nat) (A : Option Addr) (n c : Nat) (at_ x y : Int) (w : World) (hpq : p ≠ q) (hgq : g ≠ q) (hgp : g ≠ p) (hg : w.heap[g]? = some (rdrBlock g A n c at_ x)) (hp : w.heap[p]? = some (.cells #[.pointer (some ⟨g, 0, none⟩)] 58 (0, 0))) (hq : w.heap[q]? = some (.cells #[.int .i64 y] 27 (0, 0))) :
    CallsD Try.prog 54 #[.pointer (some ⟨p, 0, none⟩), .pointer (some ⟨q, 0, none⟩)] .returning w fun e u' w' => e = .returned (.tuple #[]) ∧ u' = .returning ∧ w'.cell? ⟨q, 0, none⟩ = some (.int .i64 x) ∧ But (fun k => k = g ∨ k = q) w w' := by
  obtain ⟨c0, c1, c2, c3, f0, f1, f2, f3⟩ := rdrC hg
  have hpc : w.cell? ⟨p, 0, none⟩ = some (.pointer (some ⟨g, 0, none⟩)) := by simp [World.cell?, hp]
  have hqc : w.cell? ⟨q, 0, none⟩ = some (.int .i64 y) := by simp [World.cell?, hq]
  have hqf : w.frozen? ⟨q, 0, none⟩ = false := by simp [World.frozen?, hq]
  have hqp := hpq.symm
  have hqg := hgq.symm
  have hpg := hgp.symm
  have hsame := gave_same g
  have Hb : Hid (But (fun k => k = g ∨ k = q) w (((((w.setCell ⟨q, 0, none⟩ (.int .i64 x)).setCell ⟨g, 0, none⟩ (.pointer none)).setCell ⟨g, 1, none⟩ (.slice none 0 0)).setCell ⟨g, 2, none⟩ (.int .i64 0)).setCell ⟨g, 3, none⟩ (.int .i64 0))) :=
    (((((But.refl (fun k => k = g ∨ k = q) w).setCell (p := ⟨q, 0, none⟩) (.inr rfl) _).setCell (p := ⟨g, 0, none⟩) (.inl rfl) _).setCell (p := ⟨g, 1, none⟩) (.inl rfl) _).setCell (p := ⟨g, 2, none⟩) (.inl rfl) _).setCell (p := ⟨g, 3, none⟩) (.inl rfl) _
  refine callsD_of_wpS Try.func54 rfl fun c₀ cs hu => ?_
  simp only [Try.ntmps54, List.size_toArray, List.length_cons, List.length_nil, Nat.reduceAdd, Nat.reduceSub, Array.replicate_succ, Array.replicate_zero, List.push_toArray, List.append_toArray, List.nil_append, List.cons_append]
  apply wpS_seq
  refine wpS_of_wp ?_
  go_wp2_with fail
  refine (show Code.wpS _ _ _ _ _ _ from ?_)
  apply wpS_seq
  refine wpS_of_wp ?_
  go_wp2_with fail
  refine (show Code.wpS _ _ _ _ _ _ from ?_)
  apply wpS_seq
  apply wpS_region
  simp [wpOpsS, go_sem, recoverD, hu, Exit.thenS]
  apply wpS_seq
  refine wpS_of_wp ?_
  go_wp2_with fail
  refine (show Code.wpS _ _ _ _ _ _ from ?_)
  refine wpS_cond (t := false) rfl ?_
  simp only [Bool.false_eq_true, if_false]
  refine wpS_of_wp (wp_skip ?_)
  refine ⟨rfl, _, by cases c₀; simp_all, .tuple #[], by simp [results, Try.results54], rfl, rfl, ?_, Hb.out⟩
  go_simp
/-- The deferred function of during, of a frame that panics with the reader's own panic: the error is told, the reader is shut, and the panic is taken back. -/
theorem catch_gave (g p q : Nat) (A : Option Addr) (n c : Nat) (at_ x y : Int) (w : World) (hpq : p ≠ q) (hgq : g ≠ q) (hgp : g ≠ p) (hg : w.heap[g]? = some (rdrBlock g A n c at_ x)) (hp : w.heap[p]? = some (.cells #[.pointer (some ⟨g, 0, none⟩)] 58 (0, 0))) (hq : w.heap[q]? = some (.cells #[.int .i64 y] 27 (0, 0))) :
    CallsD Try.prog 54 #[.pointer (some ⟨p, 0, none⟩), .pointer (some ⟨q, 0, none⟩)] (.panicking (gaveUp g)) w fun e u' w' => e = .returned (.tuple #[]) ∧ u' = .panicking [{ v := .iface 78 (.agg #[.pointer (some ⟨g, 0, none⟩)]), recovered := true }] ∧ w'.cell? ⟨q, 0, none⟩ = some (.int .i64 x) ∧ But (fun k => k = g ∨ k = q) w w' := by
  obtain ⟨c0, c1, c2, c3, f0, f1, f2, f3⟩ := rdrC hg
  have hpc : w.cell? ⟨p, 0, none⟩ = some (.pointer (some ⟨g, 0, none⟩)) := by simp [World.cell?, hp]
  have hqc : w.cell? ⟨q, 0, none⟩ = some (.int .i64 y) := by simp [World.cell?, hq]
  have hqf : w.frozen? ⟨q, 0, none⟩ = false := by simp [World.frozen?, hq]
  have hqp := hpq.symm
  have hqg := hgq.symm
  have hpg := hgp.symm
  have hsame := gave_same g
  have Hb : Hid (But (fun k => k = g ∨ k = q) w (((((w.setCell ⟨q, 0, none⟩ (.int .i64 x)).setCell ⟨g, 0, none⟩ (.pointer none)).setCell ⟨g, 1, none⟩ (.slice none 0 0)).setCell ⟨g, 2, none⟩ (.int .i64 0)).setCell ⟨g, 3, none⟩ (.int .i64 0))) :=
    (((((But.refl (fun k => k = g ∨ k = q) w).setCell (p := ⟨q, 0, none⟩) (.inr rfl) _).setCell (p := ⟨g, 0, none⟩) (.inl rfl) _).setCell (p := ⟨g, 1, none⟩) (.inl rfl) _).setCell (p := ⟨g, 2, none⟩) (.inl rfl) _).setCell (p := ⟨g, 3, none⟩) (.inl rfl) _
  refine callsD_of_wpS Try.func54 rfl fun c₀ cs hu => ?_
  simp only [Try.ntmps54, List.size_toArray, List.length_cons, List.length_nil, Nat.reduceAdd, Nat.reduceSub, Array.replicate_succ, Array.replicate_zero, List.push_toArray, List.append_toArray, List.nil_append, List.cons_append]
  apply wpS_seq
  refine wpS_of_wp ?_
  go_wp2_with fail
  refine (show Code.wpS _ _ _ _ _ _ from ?_)
  apply wpS_seq
  refine wpS_of_wp ?_
  go_wp2_with fail
  refine (show Code.wpS _ _ _ _ _ _ from ?_)
  apply wpS_seq
  apply wpS_region
  simp [wpOpsS, go_sem, recoverD, hu, Exit.thenS]
  apply wpS_seq
  refine wpS_of_wp ?_
  go_wp2_with fail
  refine (show Code.wpS _ _ _ _ _ _ from ?_)
  refine wpS_cond (t := false) rfl ?_
  simp only [Bool.false_eq_true, if_false]
  refine wpS_of_wp (wp_skip ?_)
  refine ⟨rfl, _, rfl, .tuple #[], by simp [results, Try.results54], rfl, rfl, ?_, Hb.out⟩
  go_simp

/-- What a function that is handed to Read did: it came to its end, or the reader gave up with x (then it is as it gave up; 0: it did not); of what was there S and the reader have turned; R holds then. -/
def Did (S : Nat → Prop) (g : Nat) (R : Int → World → Prop) (w : World) (e : Ending) (w' : World) : Prop :=
  ∃ x A n c at_, ((e = .returned (.tuple #[]) ∧ x = 0) ∨ e = .panicked (gaveUp g)) ∧ w'.heap[g]? = some (rdrBlock g A n c at_ x) ∧ But (fun k => S k ∨ k = g) w w' ∧ R x w'

/-- What during tells. -/
def DuringIs (S : Nat → Prop) (g : Nat) (R : World → Int → World → Prop) (w : World) (e : Ending) (w' : World) : Prop :=
  ∃ x w1 w2, e = .returned (.int .i64 x) ∧ Below w.heap.size w w1 ∧ w1.heap.size = w.heap.size + 2 ∧ R w1 x w2 ∧ But (fun k => k = g ∨ (w.heap.size ≤ k ∧ k < w.heap.size + 2)) w2 w' ∧ But (fun k => S k ∨ k = g) w w'

theorem during_any (S : Nat → Prop) (B g F : Nat) (caps : Array Value) (l : List Int) (R : World → Int → World → Prop) (w : World) (hS : ∀ k, S k → k < w.heap.size) (hgw : g < w.heap.size) (h : Rdr w B g l 0)
    (hF : ∀ args W, (callFunc F args).run Try.prog W = .ok (.enter F args) W)
    (hdo : ∀ w1, Below w.heap.size w w1 → w1.heap.size = w.heap.size + 2 → Rdr w1 B g l 0 → Calls Try.prog F (#[.pointer (some ⟨g, 0, none⟩)] ++ caps) w1 (Did S g (R w1) w1)) :
    Calls Try.prog 46 #[.pointer (some ⟨g, 0, none⟩), .func (.func F) #[] caps] w (DuringIs S g R w) := by
  have hmf : ∀ (fn : Fn) (first cap : Array Value) (w : World), (Instr.makeFunc fn first cap).run Try.prog w = .ok (.func fn first cap) w := fun _ _ _ _ => rfl
  have hb0 : Below w.heap.size w ((w.alloc (.cells #[.pointer (some ⟨g, 0, none⟩)] 58)).alloc (.cells #[.int .i64 0] 27)) := ((Below.refl _ _).alloc (Nat.le_refl _) _).alloc (by simp) _
  have Hdo := Lib.hid (hdo _ hb0 (by simp) (h.below hb0))
  have Hb0 := Lib.hid hb0
  clear hb0 hdo
  go_enter_defers Try.func46, Try.ntmps46
  go_wp2_with fail
  refine Hdo.out.mono ?_
  rintro e w2 ⟨x, A, n, c, at_, he, hg, hb, hR⟩
  have hp2 : w2.heap[w.heap.size]? = some (.cells #[.pointer (some ⟨g, 0, none⟩)] 58 (0, 0)) := hb.blk (by rw [Below.heap_alloc _ _ _ (by simp)]; exact heap_alloc_new w _) (fun hh => by rcases hh with hh | hh; have := hS _ hh; omega; omega)
  have hq2 : w2.heap[w.heap.size + 1]? = some (.cells #[.int .i64 0] 27 (0, 0)) := hb.blk (by have := heap_alloc_new (w.alloc (.cells #[.pointer (some ⟨g, 0, none⟩)] 58)) (.cells #[.int .i64 0] 27); simpa using this) (fun hh => by rcases hh with hh | hh; have := hS _ hh; omega; omega)
  have hbw := But.trans2 (S := fun k => S k ∨ k = g) (But.of Hb0.out) hb (fun _ _ h => h)
  have hend : ∀ w3, w3.cell? ⟨w.heap.size + 1, 0, none⟩ = some (.int .i64 x) → But (fun k => k = g ∨ k = w.heap.size + 1) w2 w3 → DuringIs S g R w (.returned (.int .i64 x)) w3 := by
    intro w3 _ hb3
    refine ⟨x, _, w2, rfl, Hb0.out, by simp, hR, hb3.mono (fun k _ hk => by rcases hk with hk | hk; exact .inl hk; exact .inr (by omega)), But.trans2 hbw hb3 (fun k hk hh => by rcases hh with hh | hh; exact .inr hh; omega)⟩
  have Hend := Lib.hid hend
  have Hp2 := Lib.hid hp2
  have Hq2 := Lib.hid hq2
  have Hg := Lib.hid hg
  clear hp2 hq2 hg hbw hend hb hR
  rcases he with ⟨rfl, rfl⟩ | rfl
  · have hqc : w2.cell? ⟨w.heap.size + 1, 0, none⟩ = some (.int .i64 0) := by simp [World.cell?, Hq2.out]
    have hqf : w2.frozen? ⟨w.heap.size + 1, 0, none⟩ = false := by simp [World.frozen?, Hq2.out]
    go_wp2_with fail
    have hb0 : But (fun k => k = w.heap.size + 1) w2 (w2.setCell ⟨w.heap.size + 1, 0, none⟩ (.int .i64 0)) := (But.refl (fun k => k = w.heap.size + 1) w2).setCell (p := ⟨w.heap.size + 1, 0, none⟩) rfl _
    refine leaves_cons (f := 54) (args := #[.pointer (some ⟨w.heap.size, 0, none⟩), .pointer (some ⟨w.heap.size + 1, 0, none⟩)]) (by simp) (by simp [go_sem]) ?_
    refine (catch_idle g w.heap.size (w.heap.size + 1) A n c at_ 0 0 _ (by omega) (by omega) (by omega) (hb0.blk Hg.out (by omega)) (hb0.blk Hp2.out (by omega)) (by rw [setCell_block Hq2.out]; simp)).mono ?_
    rintro e u' w3 ⟨rfl, rfl, hc, hb⟩
    have Hb := Lib.hid (Hend.out w3 hc (But.trans (hb0.mono (fun k _ hk => .inr hk)) hb))
    clear hb hb0
    simp [Leaves, settle, results, go_sem, Try.results46, hc]
    exact Hb.out
  · refine leaves_cons (f := 54) (args := #[.pointer (some ⟨w.heap.size, 0, none⟩), .pointer (some ⟨w.heap.size + 1, 0, none⟩)]) (by simp) (by simp [go_sem]) ?_
    refine (catch_gave g w.heap.size (w.heap.size + 1) A n c at_ x 0 _ (by omega) (by omega) (by omega) Hg.out Hp2.out Hq2.out).mono ?_
    rintro e u' w3 ⟨rfl, rfl, hc, hb⟩
    have Hb := Lib.hid (Hend.out w3 hc hb)
    clear hb
    simp [Leaves, settle, results, go_sem, Try.results46, hc]
    exact Hb.out

/-- What Read tells: what the reader gave up with, or 0; R held when the function was done, and since then only what Read itself made has turned. -/
def ReadIs (S : Nat → Prop) (R : World → Int → World → Prop) (w : World) (e : Ending) (w' : World) : Prop :=
  ∃ x w1 w2, e = .returned (.int .i64 x) ∧ Below w.heap.size w w1 ∧ R w1 x w2 ∧ But (fun k => w.heap.size ≤ k ∧ k < w1.heap.size) w2 w' ∧ But S w w'

theorem slAt_own {w : World} {B : Nat} {A : Option Addr} {n c : Nat} {l : List Int} (h : OwnB w B A n c l) : SlAt A c ∧ ∀ b o, A = some ⟨b, o, none⟩ → B ≤ b ∧ b < w.heap.size := by
  rcases h.2 with ⟨e, _⟩ | ⟨g, cap, cur, e, hB, hg, _⟩
  · injection e with e1 _ e3
    subst e1; subst e3
    exact ⟨.inl ⟨rfl, rfl⟩, fun _ _ e => by cases e⟩
  · injection e with e1 _ _
    subst e1
    exact ⟨.inr ⟨g, 0, rfl⟩, fun _ _ e => by injection e with e; injection e with e _; rw [← e]; exact ⟨hB, lt_of_block hg⟩⟩

/-- A function that has a body is entered. -/
theorem enter_of {f : FuncId} {fn : Func} {c : Code} (hf : Try.prog.funcs[f]? = some fn) (hname : (fn.name == "runtime.NumGoroutine") = false) (hb : fn.body = some c) (args : Array Value) (W : World) : (callFunc f args).run Try.prog W = .ok (.enter f args) W := by
  have hn : ¬ fn.name = "runtime.NumGoroutine" := by simpa using hname
  simp [callFunc, hf, hb, hn, go_sem]

theorem func_nil (F : Nat) (caps : Array Value) (w : World) : (binOp .eql 64 (.func (.func F) #[] caps) .nilFunc).run Try.prog w = .ok (.bool false) w := by
  have h : ∀ d : Nat, (Op.equalIn (d + 1) 64 (.func (.func F) #[] caps) .nilFunc).run Try.prog w = .ok false w := fun d => by
    simp [Op.equalIn, run_underlying Try.underlying64]
  simp only [binOp]
  simp [Op.equal, Op.maxDepth, h 9999]

theorem read_any (S : Nat → Prop) (F n c : Nat) (caps : Array Value) (args : Nat → Array Value) (hargs : ∀ g, #[.pointer (some ⟨g, 0, none⟩)] ++ caps = args g) (A : Option Addr) (l : List Int) (R : World → Int → World → Prop) (w : World) (hS : ∀ k, S k → k < w.heap.size) (hn : n ≤ 140737488355328) (hr : Rd w A n l)
    (hF : ∀ args W, (callFunc F args).run Try.prog W = .ok (.enter F args) W)
    (hdo : ∀ w1 g, Below w.heap.size w w1 → w.heap.size ≤ g → g < w1.heap.size → Rdr w1 w.heap.size g l 0 → Calls Try.prog F (args g) w1 (Did S g (R w1) w1)) :
    Calls Try.prog 30 #[.slice A n c, .func (.func F) #[] caps] w (ReadIs S R w) := by
  have Hdo := Lib.hid hdo
  have Hcl := Lib.hid (clone_any A n c l w hn hr)
  have hnil := func_nil F caps
  have Hargs := Lib.hid hargs
  clear hargs
  have hbyte := hr.byte
  clear hdo hr
  go_enter Try.func30, Try.ntmps30
  go_wp2_with fail
  refine Hcl.out.mono ?_
  rintro e w1 ⟨A1, c1, rfl, hnc1, hc1, hown, hb1⟩
  have hs1 := slAt_own hown
  have hlen := hown.len
  have hba : Below w1.heap.size w1 (w1.alloc (rdrBlock w1.heap.size A1 n c1 0 0)) := (Below.refl _ _).alloc (Nat.le_refl _) _
  have hR : Rdr (w1.alloc (rdrBlock w1.heap.size A1 n c1 0 0)) w.heap.size w1.heap.size l 0 :=
    ⟨A1, n, c1, hnc1, hc1, hs1.1, ⟨hb1.size, hs1.2⟩, ⟨by omega, by omega⟩, heap_alloc_new w1 _, (hown.rd hbyte).below hba⟩
  have Hd := Lib.hid (during_any S w.heap.size w1.heap.size F caps l R (w1.alloc (rdrBlock w1.heap.size A1 n c1 0 0)) (fun k hk => by have := hS k hk; have := hb1.size; simp; omega) (by simp) hR hF
    (fun w2 h2 h2s h2r => by rw [Hargs.out]; exact Hdo.out w2 w1.heap.size (below_trans hb1 (below_trans hba h2)) hb1.size (by rw [h2s]; simp; omega) h2r))
  have Hb1 := Lib.hid hb1
  have Hba := Lib.hid hba
  clear hown hb1 hba hR hlen hs1 hbyte
  go_wp2_with fail
  refine Hd.out.mono ?_
  rintro e w2 ⟨x, wd, w3, rfl, hbd, hsd, hR, hb2, hb3⟩
  have Hx : Hid (ReadIs S R w (.returned (.int .i64 x)) w2) := by
    have hsz : (w1.alloc (rdrBlock w1.heap.size A1 n c1 0 0)).heap.size = w1.heap.size + 1 := by simp
    refine ⟨x, wd, w3, rfl, below_trans Hb1.out (below_trans Hba.out hbd), hR, ?_, ?_⟩
    · refine hb2.mono (fun k _ hk => ?_)
      have := Hb1.out.size
      rw [hsz] at hk hsd
      omega
    · refine But.trans2 (But.of (below_trans Hb1.out Hba.out)) hb3 (fun k hk hh => ?_)
      rcases hh with hh | hh
      · exact hh
      · have := Hb1.out.size; omega
  clear hR hb2 hb3 hbd hsd
  go_wp2_with fail
  go_ret
  exact Hx.out

end Go.Proofs.Ytcdflpfgjodeaaa
