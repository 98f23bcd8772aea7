/-
  Texts laid together: Opt, OptFew, OptRef, OptFind.
-/
import Derived.Test.YtoegfgbalcholaaGreatZT06
import Derived.Deep.Slices
import Derived.ChangeSame
import Derived.Deep.LoopGhost
import Derived.LoopTactic
import Derived.RegionTactic
import Derived.BigRegion
import Derived.ChangeAlike
import Derived.Lib.Hide
import Derived.Deep.QuietTactic
import Derived.BigQuiet
import Derived.Test.YtoegfgbalcholaaGreatZT04

/-
  Slices of options ([]api.Opt): what they hold ('RdO'), what it reads as ('Reads'), one of the call's own ('OwnO'), append, one that comes in. No function of the program.
-/
namespace Go.Proofs.YtoegfgbalcholaaGreat
set_option maxRecDepth 10000
open Go.ChangeShapes Go.WideShapes Go.ChangeAt Go.RowKit Go.Deep

/-- An option's two cells. -/
structure OptV where
  kind : Int
  A : Option Addr
  n : Nat
  c : Nat
def OptV.none : OptV := ⟨0, Option.none, 0, 0⟩
def optCells (os : List OptV) : List Value := os.flatMap fun o => [.int .u8 o.kind, .slice o.A o.n o.c]
theorem optCells_len (os : List OptV) : (optCells os).length = os.length * 2 := by
  induction os with
  | nil => rfl
  | cons o os ih => simp [optCells] at ih ⊢; omega
theorem optCells_app (a b : List OptV) : optCells (a ++ b) = optCells a ++ optCells b := by simp [optCells]
theorem optCells_at (os : List OptV) (i : Nat) (h : i < os.length) : (optCells os)[i * 2]? = some (.int .u8 (os.getD i .none).kind) ∧ (optCells os)[i * 2 + 1]? = some (.slice (os.getD i .none).A (os.getD i .none).n (os.getD i .none).c) := by
  induction os generalizing i with
  | nil => simp at h
  | cons o os ih =>
    cases i with
    | zero => simp [optCells]
    | succ i =>
      have := ih i (by simpa using h)
      have e : (i + 1) * 2 = i * 2 + 1 + 1 := by omega
      rw [e]
      simpa [optCells] using this
theorem optCells_one (os : List OptV) : ∀ u ∈ optCells os, u.oneCell' = true := by
  intro u hu
  simp [optCells] at hu
  obtain ⟨o, _, rfl | rfl⟩ := hu <;> rfl

/-- The slice '.slice A n _' holds the options' cells os, in memory that is there. -/
structure RdO (w : World) (A : Option Addr) (n : Nat) (os : List OptV) : Prop where
  len : os.length = n
  at_ : 0 < n → ∃ b o, A = some ⟨b, o, Option.none⟩ ∧ b < w.heap.size ∧ ∀ i, i < n → w.cell? ⟨b, o + i * 2, Option.none⟩ = some (.int .u8 (os.getD i .none).kind) ∧ w.cell? ⟨b, o + (i * 2 + 1), Option.none⟩ = some (.slice (os.getD i .none).A (os.getD i .none).n (os.getD i .none).c)
theorem RdO.nil (w : World) (A : Option Addr) : RdO w A 0 [] := ⟨rfl, fun h => absurd h (by omega)⟩
theorem RdO.below {w w' : World} {A : Option Addr} {n : Nat} {os : List OptV} (h : RdO w A n os) (hb : Below w.heap.size w w') : RdO w' A n os :=
  ⟨h.len, fun hn => by
    obtain ⟨b, o, e, hlt, hc⟩ := h.at_ hn
    exact ⟨b, o, e, Nat.lt_of_lt_of_le hlt hb.size, fun i hi => ⟨by rw [hb.cell (p := ⟨b, o + i * 2, Option.none⟩) hlt]; exact (hc i hi).1, by rw [hb.cell (p := ⟨b, o + (i * 2 + 1), Option.none⟩) hlt]; exact (hc i hi).2⟩⟩⟩
theorem RdO.drewN {w : World} {A : Option Addr} {n : Nat} {os : List OptV} (h : RdO w A n os) (k : Nat) : RdO (w.drewN k) A n os := ⟨h.len, h.at_⟩
theorem RdO.drew {w : World} {A : Option Addr} {n : Nat} {os : List OptV} (h : RdO w A n os) : RdO w.drew A n os := ⟨h.len, h.at_⟩
theorem getD_take {α : Type} (l : List α) (i k : Nat) (d : α) (h : i < k) : (l.take k).getD i d = l.getD i d := by simp [List.getD, List.getElem?_take_of_lt h]
theorem RdO.take {w : World} {A : Option Addr} {n k : Nat} {os : List OptV} (h : RdO w A n os) (hk : k ≤ n) : RdO w A k (os.take k) := by
  refine ⟨by rw [List.length_take, h.len]; omega, fun hn => ?_⟩
  obtain ⟨b, o, e, hlt, hc⟩ := h.at_ (by omega)
  exact ⟨b, o, e, hlt, fun i hi => by rw [getD_take _ _ _ _ hi]; exact hc i (by omega)⟩

/-- One option's address, and what lies there. -/
theorem RdO.index {w : World} {A : Option Addr} {n c : Nat} {os : List OptV} (h : RdO w A n os) {j : Nat} (hj : j < n) :
    ∃ b p, (∀ W : World, (Instr.indexAt 27 (.slice A n c) (.int .i64 (j : Int))).run Tryz.prog W = .ok (.pointer (some ⟨b, p, Option.none⟩)) W) ∧ b < w.heap.size ∧
      w.cell? ⟨b, p, Option.none⟩ = some (.int .u8 (os.getD j .none).kind) ∧ w.cell? ⟨b, p + 1, Option.none⟩ = some (.slice (os.getD j .none).A (os.getD j .none).n (os.getD j .none).c) := by
  obtain ⟨b, o, rfl, hb, hc⟩ := h.at_ (by omega)
  have h0 : (0 : Int) ≤ (j : Int) := by omega
  have h1 : (j : Int) < (n : Int) := by omega
  exact ⟨b, o + j * 2, fun W => by go_simp, hb, (hc j hj).1, by simpa [Nat.add_assoc] using (hc j hj).2⟩

/-- An option reads as a kind and bytes. -/
def OptAt (w : World) (o : OptV) (l : Int × List Int) : Prop := o.kind = l.1 ∧ (0 ≤ o.kind ∧ o.kind < 256) ∧ o.n ≤ o.c ∧ o.c ≤ maxLen ∧ Rd w o.A o.n l.2
theorem OptAt.below {w w' : World} {o : OptV} {l : Int × List Int} (h : OptAt w o l) (hb : Below w.heap.size w w') : OptAt w' o l := ⟨h.1, h.2.1, h.2.2.1, h.2.2.2.1, h.2.2.2.2.below hb⟩
def Reads (w : World) : List OptV → List (Int × List Int) → Prop
  | [], [] => True
  | o :: os, l :: ls => OptAt w o l ∧ Reads w os ls
  | _, _ => False
theorem Reads.len {w : World} : ∀ {os : List OptV} {ls : List (Int × List Int)}, Reads w os ls → os.length = ls.length
  | [], [], _ => rfl
  | _ :: _, _ :: _, h => by simp [Reads.len h.2]
theorem Reads.mono {w w' : World} (hm : ∀ o l, OptAt w o l → OptAt w' o l) : ∀ {os : List OptV} {ls : List (Int × List Int)}, Reads w os ls → Reads w' os ls
  | [], [], _ => trivial
  | _ :: _, _ :: _, h => ⟨hm _ _ h.1, Reads.mono hm h.2⟩
theorem Reads.below {w w' : World} {os : List OptV} {ls : List (Int × List Int)} (h : Reads w os ls) (hb : Below w.heap.size w w') : Reads w' os ls := h.mono fun _ _ h => h.below hb
theorem Reads.drewN {w : World} {os : List OptV} {ls : List (Int × List Int)} (h : Reads w os ls) (k : Nat) : Reads (w.drewN k) os ls := Reads.mono (w := w) (w' := w.drewN k) (fun _ _ h => ⟨h.1, h.2.1, h.2.2.1, h.2.2.2.1, ⟨h.2.2.2.2.len, h.2.2.2.2.byte, h.2.2.2.2.at_⟩⟩) h
theorem Reads.app {w : World} : ∀ {a b : List OptV} {k l : List (Int × List Int)}, Reads w a k → Reads w b l → Reads w (a ++ b) (k ++ l)
  | [], _, [], _, _, h => h
  | _ :: _, _, _ :: _, _, h, h' => ⟨h.1, Reads.app h.2 h'⟩
theorem Reads.take {w : World} : ∀ {os : List OptV} {ls : List (Int × List Int)} (k : Nat), Reads w os ls → Reads w (os.take k) (ls.take k)
  | _, _, 0, _ => by simp [Reads]
  | [], [], _ + 1, _ => trivial
  | _ :: _, _ :: _, k + 1, h => ⟨h.1, Reads.take k h.2⟩
theorem Reads.get {w : World} : ∀ {os : List OptV} {ls : List (Int × List Int)}, Reads w os ls → ∀ i, i < os.length → OptAt w (os.getD i .none) (ls.getD i (0, []))
  | [], [], _, _, hi => by simp at hi
  | _ :: _, _ :: _, h, 0, _ => by simpa using h.1
  | _ :: os, _ :: _, h, i + 1, hi => by simpa using Reads.get h.2 i (by simpa using hi)

theorem infoOpt : (Tryz.prog.info? 176).map (fun i => (i.zero, i.size, i.bytes)) = some (some (.agg #[.int .u8 0, .slice Option.none 0 0]), 2, 32) := by kernel_rfl
/-- '.slice A n c' is a slice of options that the call made, from block B on: its cells are os. -/
def OwnO (w : World) (B : Nat) (A : Option Addr) (n c : Nat) (os : List OptV) : Prop := w.ownsRow B 176 2 (.slice A n c) n (optCells os)
theorem OwnO.len {w : World} {B : Nat} {A : Option Addr} {n c : Nat} {os : List OptV} (h : OwnO w B A n c os) : os.length = n := by
  have := h.1
  rw [optCells_len] at this
  omega
theorem OwnO.cap {w : World} {B : Nat} {A : Option Addr} {n c : Nat} {os : List OptV} (h : OwnO w B A n c os) : n ≤ c := by
  rcases h.2 with ⟨e, rfl⟩ | ⟨g, cap, cur, e, _, _, hnc, _⟩
  · exact Nat.zero_le _
  · injection e with _ _ e3
    omega
theorem OwnO.capMax {w : World} {B : Nat} {A : Option Addr} {n c : Nat} {os : List OptV} (h : OwnO w B A n c os) : c ≤ maxLen := by
  rcases h.2 with ⟨e, _⟩ | ⟨g, cap, cur, e, _, _, _, hcm, _⟩
  · injection e with _ _ e3; subst e3; simp
  · injection e with _ _ e3; subst e3; exact hcm
theorem OwnO.nil (w : World) (B : Nat) : OwnO w B Option.none 0 0 [] := World.ownsRow_nil w B 176 2
theorem OwnO.made {w : World} {B g cap : Nat} {cur : Array Value} (hg : w.heap[g]? = some (.cells cur 176 (0, 0))) (hB : B ≤ g) (hm : cap ≤ maxLen) (hc : cur.size = cap * 2) : OwnO w B (some ⟨g, 0, Option.none⟩) 0 cap [] :=
  ⟨rfl, .inr ⟨g, cap, cur, rfl, hB, hg, Nat.zero_le _, hm, hc, by simp [optCells]⟩⟩
theorem OwnO.rd {w : World} {B : Nat} {A : Option Addr} {n c : Nat} {os : List OptV} (h : OwnO w B A n c os) : RdO w A n os := by
  refine ⟨h.len, fun hn => ?_⟩
  rcases id h.2 with ⟨e, h0⟩ | ⟨g, cap, cur, e, _, hg, _⟩
  · omega
  · injection e with e1 e2 e3
    subst e1
    refine ⟨g, 0, rfl, lt_of_block hg, fun i hi => ?_⟩
    have hlen := h.len
    have hat := optCells_at os i (by omega)
    rw [Nat.zero_add, Nat.zero_add]
    have h' : w.ownsRow B 176 2 (.slice (some ⟨g, 0, Option.none⟩) n c) n (optCells os) := h
    exact ⟨by rw [World.ownsRow.cellAt h' _ (by omega)]; exact hat.1, by rw [World.ownsRow.cellAt h' _ (by omega)]; exact hat.2⟩
theorem OwnO.mono {w : World} {B B' : Nat} {A : Option Addr} {n c : Nat} {os : List OptV} (h : OwnO w B A n c os) (hB : B' ≤ B) : OwnO w B' A n c os := by
  refine ⟨h.1, ?_⟩
  rcases h.2 with h0 | ⟨g, cap, cur, e, hg, r⟩
  · exact .inl h0
  · exact .inr ⟨g, cap, cur, e, Nat.le_trans hB hg, r⟩
theorem OwnO.but {S : Nat → Prop} {w w' : World} {B : Nat} {A : Option Addr} {n c : Nat} {os : List OptV} (h : OwnO w B A n c os) (hb : But S w w') (hS : ∀ g, A = some ⟨g, 0, Option.none⟩ → ¬ S g) : OwnO w' B A n c os := by
  refine ⟨h.1, ?_⟩
  rcases h.2 with h0 | ⟨g, cap, cur, e, hB, hc, hrest⟩
  · exact .inl h0
  · exact .inr ⟨g, cap, cur, e, hB, hb.blk hc (hS g (by injection e)), hrest⟩
theorem OwnO.on {w w' : World} {B : Nat} {A : Option Addr} {n c : Nat} {os : List OptV} (h : OwnO w B A n c os) (hb : Below w.heap.size w w') : OwnO w' B A n c os := h.but (But.of (S := fun _ => False) hb) (fun _ _ x => x)
theorem OwnO.drew {w : World} {B : Nat} {A : Option Addr} {n c : Nat} {os : List OptV} (h : OwnO w B A n c os) : OwnO w.drew B A n c os := h
theorem OwnO.addr {w : World} {B : Nat} {A : Option Addr} {n c : Nat} {os : List OptV} (h : OwnO w B A n c os) (hn : 0 < n) : ∃ g, A = some ⟨g, 0, Option.none⟩ ∧ B ≤ g ∧ g < w.heap.size := by
  rcases h.2 with ⟨_, rfl⟩ | ⟨g, cap, cur, e, hB, hg, _⟩
  · omega
  · injection e with e1 _ _
    exact ⟨g, e1, hB, lt_of_block hg⟩

theorem optCells_set (os : List OptV) (j : Nat) (A : Option Addr) (n c : Nat) (h : j < os.length) : (optCells os).set (j * 2 + 1) (.slice A n c) = optCells (os.set j ⟨(os.getD j .none).kind, A, n, c⟩) := by
  induction os generalizing j with
  | nil => simp at h
  | cons o os ih =>
    cases j with
    | zero => simp [optCells]
    | succ j =>
      have := ih j (by simpa using h)
      have e : (j + 1) * 2 = j * 2 + 1 + 1 := by omega
      rw [e]
      simpa [optCells] using this
theorem OwnO.set_ {w : World} {B g n c : Nat} {os : List OptV} (h : OwnO w B (some ⟨g, 0, Option.none⟩) n c os) (j : Nat) (hj : j < n) (A : Option Addr) (m k : Nat) : OwnO (w.setCell ⟨g, j * 2 + 1, Option.none⟩ (.slice A m k)) B (some ⟨g, 0, Option.none⟩) n c (os.set j ⟨(os.getD j .none).kind, A, m, k⟩) := by
  have := (World.ownsRow.stored h (j * 2 + 1) (.slice A m k)).1
  rw [optCells_set os j A m k (by have := h.len; omega)] at this
  exact this

theorem OwnO.form {w : World} {B : Nat} {v : Value} {n : Nat} {os : List OptV} (h : w.ownsRow B 176 2 v n (optCells os)) : ∃ A c, v = .slice A n c ∧ OwnO w B A n c os := by
  rcases id h.2 with ⟨rfl, rfl⟩ | ⟨g, cap, cur, rfl, _⟩
  · exact ⟨Option.none, 0, rfl, h⟩
  · exact ⟨_, _, rfl, h⟩

/-- append of options onto a row of the call's own. -/
theorem appO_run (w : World) (ty : TypeId) (B : Nat) (A A' : Option Addr) (n c m c' : Nat) (os os' : List OptV) (h : OwnO w B A n c os) (hr : RdO w A' m os') (hs : (n + m) * 32 ≤ 140737488355328) (hB : B ≤ w.heap.size) :
    ∃ A2 c2 w', (Builtin.append_ #[27, 27] ty #[.slice A n c, .slice A' m c']).run Tryz.prog w = .ok (.slice A2 (n + m) c2) w' ∧ OwnO w' B A2 (n + m) c2 (os ++ os') ∧ w.grownBy w' (Value.slice A n c).ownBlock ∧ Below B w w' ∧
      ((Value.slice A2 (n + m) c2).ownBlock = (Value.slice A n c).ownBlock ∨ (Value.slice A2 (n + m) c2).ownBlock = some w.heap.size) := by
  obtain ⟨i0, hi, hz0, hz1, hz2⟩ := info_parts infoOpt
  have key : ∀ (a : Addr), A' = some a → (∀ j u, (optCells os')[j]? = some u → w.cell? (a.add j) = some u) →
      ∃ A2 c2 w', (Builtin.append_ #[27, 27] ty #[.slice A n c, .slice A' m c']).run Tryz.prog w = .ok (.slice A2 (n + m) c2) w' ∧ OwnO w' B A2 (n + m) c2 (os ++ os') ∧ w.grownBy w' (Value.slice A n c).ownBlock ∧ Below B w w' ∧
        ((Value.slice A2 (n + m) c2).ownBlock = (Value.slice A n c).ownBlock ∨ (Value.slice A2 (n + m) c2).ownBlock = some w.heap.size) := by
    rintro a rfl hnews
    obtain ⟨v', w', hrun, hown, hg, _, hat⟩ := run_append_own_at (P := Tryz.prog) w B 27 ty 176 i0 (.agg #[.int .u8 0, .slice Option.none 0 0]) 2 32 Tryz.underlying27 hi hz0 hz1 hz2 rfl (by omega) (.slice A n c) n _ h a m c' (optCells os')
      (by rw [optCells_len, hr.len]) hnews (optCells_one os') (by unfold maxLen; omega) hs hB
    rw [← optCells_app] at hown
    obtain ⟨A2, c2, rfl, ho⟩ := OwnO.form hown
    refine ⟨A2, c2, w', hrun, ho, hg, ⟨hg.os, hg.tape, hg.output, hg.size, fun k hk => hg.block k (by omega) (fun e => ?_)⟩, hat⟩
    rcases h.2 with ⟨e1, _⟩ | ⟨g, cap, cur, e1, hBg, _⟩
    · injection e1 with e1 e2 e3
      subst e1
      simp [Value.ownBlock] at e
    · injection e1 with e1 e2 e3
      subst e1
      simp [Value.ownBlock] at e
      omega
  rcases Nat.eq_zero_or_pos m with h0 | h0
  · subst h0
    have hl : os' = [] := List.eq_nil_of_length_eq_zero hr.len
    subst hl
    cases A' with
    | none =>
      refine ⟨A, c, w, ?_, by simpa using h, ⟨rfl, rfl, rfl, Nat.le_refl _, fun _ _ _ => rfl⟩, Below.refl _ _, .inl rfl⟩
      rcases h.2 with ⟨e, rfl⟩ | ⟨g, cap, cur, e, _, _, hnc, _⟩
      · injection e with e1 e2 e3
        subst e1; subst e3
        simp [Builtin.append_, run_underlying Tryz.underlying27, sizeOf, typeInfo, hi, Builtin.lenOf, Builtin.firstCells]
      · injection e with e1 e2 e3
        subst e1; subst e3
        simp [Builtin.append_, run_underlying Tryz.underlying27, sizeOf, typeInfo, hi, Builtin.lenOf, Builtin.firstCells, hnc, storeCells]
    | some a => exact key a rfl (by simp [optCells])
  · obtain ⟨b, o, rfl, _, hc⟩ := hr.at_ h0
    refine key _ rfl (fun j u hj => ?_)
    have hjm : j < os'.length * 2 := by
      have := (List.getElem?_eq_some_iff.1 hj).1
      rwa [optCells_len] at this
    refine cell_add ?_
    obtain ⟨i, rfl | rfl⟩ : ∃ i, j = i * 2 ∨ j = i * 2 + 1 := ⟨j / 2, by omega⟩
    · rw [(optCells_at os' i (by omega)).1] at hj
      rw [(hc i (by have := hr.len; omega)).1]; exact hj
    · rw [(optCells_at os' i (by omega)).2] at hj
      rw [(hc i (by have := hr.len; omega)).2]; exact hj

/-- An append at a step of a region that draws its order. -/
theorem step_appO {ops : Array Oper} {o : Oper} {a : Act} {w : World} {K : Act → World → Prop} {Q : Exit → Act → World → Prop} {E : Prop} (hgd : o.guard = Option.none) (s x : Operand)
    (ho : o.op = .call { callee := .builtin .append, args := #[s, x], argTypes := #[27, 27] })
    (B : Nat) (A A' : Option Addr) (n c m c' : Nat) (l l' : List OptV) (N : Nat) (l2 : List OptV) (hN : n + m = N) (hl : l ++ l' = l2) (hs : a.eval s = .slice A n c) (hx : a.eval x = .slice A' m c') (h : OwnO w B A n c l) (hr : RdO w A' m l') (hsz : (n + m) * 32 ≤ 140737488355328) (hB : B ≤ w.heap.size)
    (hk : ∀ A2 c2 w', OwnO w' B A2 N c2 l2 → w.grownBy w' (Value.slice A n c).ownBlock → Below B w w' → ((Value.slice A2 N c2).ownBlock = (Value.slice A n c).ownBlock ∨ (Value.slice A2 N c2).ownBlock = some w.heap.size) → K (a.put o.dst (.slice A2 N c2)) w') :
    if Region.wanted o (yielded ops a.tmps) = true then Oper.wp Tryz.prog o a w K Q else E := by
  subst hN; subst hl
  have hw : Region.wanted o (yielded ops a.tmps) = true := by simp [Region.wanted, hgd]
  rw [if_pos hw]
  obtain ⟨A2, c2, w', hrun, h1, h2, h3, h4⟩ := appO_run w o.type B A A' n c m c' l l' h hr hsz hB
  unfold Oper.wp execOp
  simp only [ho, resolve, invoke, builtin, Sem.run_bind, Sem.run_pure, Result.andThen_ok, List.map_toArray, List.map_cons, List.map_nil, hs, hx, hrun]
  exact hk A2 c2 w' h1 h2 h3 h4

/-- The block in which a slice begins. -/
def Blk (A : Option Addr) (k : Nat) : Prop := ∃ a, A = some a ∧ a.block = k
theorem grown_but {w w' : World} {A : Option Addr} {n c : Nat} (h : w.grownBy w' (Value.slice A n c).ownBlock) : But (Blk A) w w' :=
  ⟨h.os, h.tape, h.output, h.size, fun k hk hn => h.block k hk (fun e => hn (by
    cases A with
    | none => simp [Value.ownBlock] at e
    | some a => exact ⟨a, rfl, by simpa [Value.ownBlock] using e.symm⟩))⟩
/-- What the options point to does not begin in the block of the slice A. -/
def ApartO (os : List OptV) (A : Option Addr) : Prop := ∀ o ∈ os, ∀ b off, o.A = some ⟨b, off, Option.none⟩ → 0 < o.n → ¬ Blk A b
theorem Reads.but {S : Nat → Prop} {w w' : World} : ∀ {os : List OptV} {ls : List (Int × List Int)}, Reads w os ls → But S w w' → (∀ o ∈ os, ∀ b off, o.A = some ⟨b, off, Option.none⟩ → 0 < o.n → ¬ S b) → Reads w' os ls
  | [], [], _, _, _ => trivial
  | o :: os, l :: ls, h, hb, hs => ⟨⟨h.1.1, h.1.2.1, h.1.2.2.1, h.1.2.2.2.1, h.1.2.2.2.2.but hb (hs o (by simp))⟩, Reads.but h.2 hb (fun o' ho' => hs o' (by simp [ho']))⟩
theorem Reads.blk {w : World} : ∀ {os : List OptV} {ls : List (Int × List Int)}, Reads w os ls → ∀ o ∈ os, ∀ b off, o.A = some ⟨b, off, Option.none⟩ → 0 < o.n → b < w.heap.size
  | [], [], _, o, ho, _, _, _, _ => by simp at ho
  | o' :: os, l :: ls, h, o, ho, b, off, he, hn => by
    rcases List.mem_cons.1 ho with rfl | ho
    · obtain ⟨b', off', e', hlt, _⟩ := h.1.2.2.2.2.at_ hn
      rw [he] at e'
      injection e' with e'
      injection e' with e1 _
      subst e1; exact hlt
    · exact Reads.blk h.2 o ho b off he hn
theorem OwnO.blk {w : World} {B : Nat} {A : Option Addr} {n c : Nat} {os : List OptV} (h : OwnO w B A n c os) {k : Nat} (hk : Blk A k) : k < w.heap.size := by
  obtain ⟨a, rfl, rfl⟩ := hk
  rcases h.2 with ⟨e, _⟩ | ⟨g, cap, cur, e, _, hg, _⟩
  · injection e with e _ _; cases e
  · injection e with e _ _; injection e with e; subst e; exact lt_of_block hg
/-- An option more, whose bytes are new, behind an append that may have moved the row. -/
theorem ApartO.snoc {w w1 : World} {B : Nat} {A A' A4 : Option Addr} {n c n' c' d c4 : Nat} {kd : Int} {os : List OptV} {ls : List (Int × List Int)} (h : ApartO os A) (hr : Reads w1 os ls) (ho : OwnO w B A n c os)
    (h4 : 0 < d → ∀ b off, A4 = some ⟨b, off, Option.none⟩ → w.heap.size ≤ b ∧ b < w1.heap.size)
    (hat : (Value.slice A' n' c').ownBlock = (Value.slice A n c).ownBlock ∨ (Value.slice A' n' c').ownBlock = some w1.heap.size) : ApartO (os ++ [⟨kd, A4, d, c4⟩]) A' := by
  intro o hmem b off he hn hbk
  obtain ⟨a, rfl, rfl⟩ := hbk
  rcases hat with hat | hat
  · cases A with
    | none => simp [Value.ownBlock] at hat
    | some a' =>
      have e : a.block = a'.block := by simpa [Value.ownBlock] using hat
      have hlt := ho.blk ⟨a', rfl, rfl⟩
      rcases List.mem_append.1 hmem with hm | hm
      · exact h o hm _ off he hn ⟨a', rfl, e.symm⟩
      · simp at hm
        subst hm
        have := h4 hn _ off he
        omega
  · have e : a.block = w1.heap.size := by simpa [Value.ownBlock] using hat
    rcases List.mem_append.1 hmem with hm | hm
    · have := hr.blk o hm _ off he hn
      omega
    · simp at hm
      subst hm
      have := h4 hn _ off he
      omega

/-- Lists out of what holds place by place. -/
theorem lists_of {w : World} {P : Nat → OptV → Prop} : ∀ (n : Nat), (∀ i, i < n → ∃ o l, P i o ∧ OptAt w o l) → ∃ os ls, os.length = n ∧ (∀ i, i < n → P i (os.getD i .none)) ∧ Reads w os ls
  | 0, _ => ⟨[], [], rfl, fun _ h => absurd h (by omega), trivial⟩
  | n + 1, h => by
    obtain ⟨os, ls, h1, h2, h3⟩ := lists_of (P := P) n (fun i hi => h i (by omega))
    obtain ⟨o, l, hp, ho⟩ := h n (by omega)
    refine ⟨os ++ [o], ls ++ [l], by simp [h1], fun i hi => ?_, h3.app ⟨ho, trivial⟩⟩
    rcases Nat.lt_or_ge i n with hlt | hge
    · have e : (os ++ [o]).getD i .none = os.getD i .none := by simp [List.getD, List.getElem?_append_left (by omega : i < os.length)]
      rw [e]; exact h2 i hlt
    · obtain rfl : i = n := by omega
      have e : (os ++ [o]).getD i .none = o := by simp [List.getD, ← h1]
      rw [e]; exact hp

end Go.Proofs.YtoegfgbalcholaaGreat

/-
  The contract of culvertlaw05's few: the first 20 options, of at most 300 bytes, in a row of the call's own.
-/
namespace Go.Proofs.YtoegfgbalcholaaGreat
set_option maxRecDepth 10000
open Go.RowKit

def OptV.cut (o : OptV) (m : Nat) : OptV := ⟨o.kind, o.A, min o.n m, o.c⟩
theorem OptAt.cut {w : World} {o : OptV} {l : Int × List Int} (h : OptAt w o l) (m : Nat) : OptAt w (o.cut m) (l.1, l.2.take m) := by
  obtain ⟨h1, h2, h3, h4, h5⟩ := h
  refine ⟨h1, h2, Nat.le_trans (Nat.min_le_left _ _) h3, h4, ?_⟩
  have := h5.take (k := min o.n m) (Nat.min_le_left _ _)
  have e : l.2.take (min o.n m) = l.2.take m := by rw [← h5.len, Nat.min_comm, ← List.take_take, List.take_length]
  rw [e] at this
  exact this
theorem Reads.cut {w : World} (m : Nat) : ∀ {os : List OptV} {ls : List (Int × List Int)}, Reads w os ls → Reads w (os.map (·.cut m)) (ls.map fun l => (l.1, l.2.take m))
  | [], [], _ => trivial
  | _ :: _, _ :: _, h => ⟨h.1.cut m, Reads.cut m h.2⟩

/-- One option's address in a row of the call's own. -/
theorem OwnO.index {w : World} {B g n c : Nat} {os : List OptV} (h : OwnO w B (some ⟨g, 0, Option.none⟩) n c os) {j : Nat} (hj : j < n) :
    (∀ W : World, (Instr.indexAt 27 (.slice (some ⟨g, 0, Option.none⟩) n c) (.int .i64 (j : Int))).run Tryz.prog W = .ok (.pointer (some ⟨g, j * 2, Option.none⟩)) W) ∧
      w.cell? ⟨g, j * 2, Option.none⟩ = some (.int .u8 (os.getD j .none).kind) ∧ w.cell? ⟨g, j * 2 + 1, Option.none⟩ = some (.slice (os.getD j .none).A (os.getD j .none).n (os.getD j .none).c) ∧ (∀ k, w.frozen? ⟨g, k, Option.none⟩ = false) := by
  have h0 : (0 : Int) ≤ (j : Int) := by omega
  have h1 : (j : Int) < (n : Int) := by omega
  have hat := optCells_at os j (by have := h.len; omega)
  have h' : w.ownsRow B 176 2 (.slice (some ⟨g, 0, Option.none⟩) n c) n (optCells os) := h
  exact ⟨fun W => by go_simp, by rw [World.ownsRow.cellAt h' _ (by omega)]; exact hat.1, by rw [World.ownsRow.cellAt h' _ (by omega)]; exact hat.2, fun k => World.ownsRow.frozenAt h' k⟩

end Go.Proofs.YtoegfgbalcholaaGreat

/-
  The contracts of the document's own answers for options (culvertref05): Same, Without.
-/
namespace Go.Proofs.YtoegfgbalcholaaGreat
set_option maxRecDepth 10000
open Go.RowKit

def OptBool (x : Bool) (w : World) (e : Ending) (w' : World) : Prop := e = .returned (.bool x) ∧ Below w.heap.size w w'
theorem strs_eq_ (a b : List Int) (ha : ∀ x ∈ a, 0 ≤ x ∧ x < 256) (hb : ∀ x ∈ b, 0 ≤ x ∧ x < 256) : ((strOfNums a).toList == (strOfNums b).toList) = decide (a = b) := by
  rw [ByteArray.toList_eq, ByteArray.toList_eq]
  by_cases e : a = b
  · subst e; simp
  · rw [beq_eq_false_iff_ne.2 (fun x => e (nums_inj _ _ ha hb (by simpa [strOfNums_data] using x)))]
    simp [e]
theorem take_snoc_ {α : Type} (l : List α) (j : Nat) (d : α) (h : j < l.length) : l.take (j + 1) = l.take j ++ [l.getD j d] := by
  rw [List.take_succ_eq_append_getElem h]; simp [List.getD, List.getElem?_eq_getElem h]
theorem getD_ne {α : Type} {l l' : List α} {j : Nat} {d : α} (h : l.getD j d ≠ l'.getD j d) : l ≠ l' := fun e => h (by rw [e])

/-- An option's row that the walk has just laid. -/
theorem RdO.one (w : World) (g : Nat) (hg : w.heap.size = g) (t : TypeId) (fr : Nat × Nat) (kd : Int) (A : Option Addr) (n c : Nat) : RdO (w.alloc (.cells #[.int .u8 kd, .slice A n c] t fr)) (some ⟨g, 0, Option.none⟩) 1 [⟨kd, A, n, c⟩] := by
  subst hg
  refine ⟨rfl, fun _ => ⟨w.heap.size, 0, rfl, by simp, fun i hi => ?_⟩⟩
  obtain rfl : i = 0 := by omega
  simp only [World.cell?_alloc_mark]
  simp
def withoutL (kind : Int) (ls : List (Int × List Int)) : List (Int × List Int) := ls.filter fun l => l.1 != kind
def withoutO (kind : Int) (os : List OptV) : List OptV := os.filter fun o => o.kind != kind
theorem Reads.without {w : World} (kind : Int) : ∀ {os : List OptV} {ls : List (Int × List Int)}, Reads w os ls → Reads w (withoutO kind os) (withoutL kind ls)
  | [], [], _ => trivial
  | o :: os, l :: ls, h => by
    have ih := Reads.without kind h.2
    have e := h.1.1
    unfold withoutO withoutL at ih ⊢
    by_cases hk : o.kind = kind
    · rw [List.filter_cons_of_neg (by simp [hk]), List.filter_cons_of_neg (by rw [← e]; simp [hk])]
      exact ih
    · rw [List.filter_cons_of_pos (by simpa using hk), List.filter_cons_of_pos (by rw [← e]; simpa using hk)]
      exact ⟨h.1, ih⟩

end Go.Proofs.YtoegfgbalcholaaGreat

/-
  The contracts of what the document itself finds among options (culvertref05's Mss, Scale, SackOk).
-/
namespace Go.Proofs.YtoegfgbalcholaaGreat
set_option maxRecDepth 10000
open Go.RowKit

end Go.Proofs.YtoegfgbalcholaaGreat
