/-
  Slices of options ([]api.Opt): what they hold ('RdO'), what it reads as ('Reads'), one of the call's own ('OwnO'), append, one that comes in. No function of the program.
-/
import Derived.Test.YtgcliijngaohdaaDoorBut
import Derived.Deep.Slices
import Derived.ChangeSame
namespace Go.Proofs.YtgcliijngaohdaaDoor
set_option maxRecDepth 10000
open Go.ChangeShapes Go.WideShapes Go.ChangeAt Go.RowKit Go.Deep

/-- An option's two cells. -/
structure OptV where
  kind : Int
  A : Option Addr
  n : Nat
  c : Nat
def OptV.none : OptV := ⟨0, Option.none, 0, 0⟩
def optCells (os : List OptV) : List Value := os.flatMap fun o => [.int .u8 o.kind, .slice o.A o.n o.c]
theorem optCells_len (os : List OptV) : (optCells os).length = os.length * 2 := by
  induction os with
  | nil => rfl
  | cons o os ih => simp [optCells] at ih ⊢; omega
theorem optCells_app (a b : List OptV) : optCells (a ++ b) = optCells a ++ optCells b := by simp [optCells]
theorem optCells_at (os : List OptV) (i : Nat) (h : i < os.length) : (optCells os)[i * 2]? = some (.int .u8 (os.getD i .none).kind) ∧ (optCells os)[i * 2 + 1]? = some (.slice (os.getD i .none).A (os.getD i .none).n (os.getD i .none).c) := by
  induction os generalizing i with
  | nil => simp at h
  | cons o os ih =>
    cases i with
    | zero => simp [optCells]
    | succ i =>
      have := ih i (by simpa using h)
      have e : (i + 1) * 2 = i * 2 + 1 + 1 := by omega
      rw [e]
      simpa [optCells] using this
theorem optCells_one (os : List OptV) : ∀ u ∈ optCells os, u.oneCell' = true := by
  intro u hu
  simp [optCells] at hu
  obtain ⟨o, _, rfl | rfl⟩ := hu <;> rfl

/-- The slice '.slice A n _' holds the options' cells os, in memory that is there. -/
structure RdO (w : World) (A : Option Addr) (n : Nat) (os : List OptV) : Prop where
  len : os.length = n
  at_ : 0 < n → ∃ b o, A = some ⟨b, o, Option.none⟩ ∧ b < w.heap.size ∧ ∀ i, i < n → w.cell? ⟨b, o + i * 2, Option.none⟩ = some (.int .u8 (os.getD i .none).kind) ∧ w.cell? ⟨b, o + (i * 2 + 1), Option.none⟩ = some (.slice (os.getD i .none).A (os.getD i .none).n (os.getD i .none).c)
theorem RdO.nil (w : World) (A : Option Addr) : RdO w A 0 [] := ⟨rfl, fun h => absurd h (by omega)⟩
theorem RdO.below {w w' : World} {A : Option Addr} {n : Nat} {os : List OptV} (h : RdO w A n os) (hb : Below w.heap.size w w') : RdO w' A n os :=
  ⟨h.len, fun hn => by
    obtain ⟨b, o, e, hlt, hc⟩ := h.at_ hn
    exact ⟨b, o, e, Nat.lt_of_lt_of_le hlt hb.size, fun i hi => ⟨by rw [hb.cell (p := ⟨b, o + i * 2, Option.none⟩) hlt]; exact (hc i hi).1, by rw [hb.cell (p := ⟨b, o + (i * 2 + 1), Option.none⟩) hlt]; exact (hc i hi).2⟩⟩⟩
theorem RdO.drewN {w : World} {A : Option Addr} {n : Nat} {os : List OptV} (h : RdO w A n os) (k : Nat) : RdO (w.drewN k) A n os := ⟨h.len, h.at_⟩
theorem RdO.drew {w : World} {A : Option Addr} {n : Nat} {os : List OptV} (h : RdO w A n os) : RdO w.drew A n os := ⟨h.len, h.at_⟩
theorem getD_take {α : Type} (l : List α) (i k : Nat) (d : α) (h : i < k) : (l.take k).getD i d = l.getD i d := by simp [List.getD, List.getElem?_take_of_lt h]
theorem RdO.take {w : World} {A : Option Addr} {n k : Nat} {os : List OptV} (h : RdO w A n os) (hk : k ≤ n) : RdO w A k (os.take k) := by
  refine ⟨by rw [List.length_take, h.len]; omega, fun hn => ?_⟩
  obtain ⟨b, o, e, hlt, hc⟩ := h.at_ (by omega)
  exact ⟨b, o, e, hlt, fun i hi => by rw [getD_take _ _ _ _ hi]; exact hc i (by omega)⟩

/-- An option reads as a kind and bytes. -/
def OptAt (w : World) (o : OptV) (l : Int × List Int) : Prop := o.kind = l.1 ∧ (0 ≤ o.kind ∧ o.kind < 256) ∧ o.n ≤ o.c ∧ o.c ≤ maxLen ∧ Rd w o.A o.n l.2
theorem OptAt.below {w w' : World} {o : OptV} {l : Int × List Int} (h : OptAt w o l) (hb : Below w.heap.size w w') : OptAt w' o l := ⟨h.1, h.2.1, h.2.2.1, h.2.2.2.1, h.2.2.2.2.below hb⟩
def Reads (w : World) : List OptV → List (Int × List Int) → Prop
  | [], [] => True
  | o :: os, l :: ls => OptAt w o l ∧ Reads w os ls
  | _, _ => False
theorem Reads.len {w : World} : ∀ {os : List OptV} {ls : List (Int × List Int)}, Reads w os ls → os.length = ls.length
  | [], [], _ => rfl
  | _ :: _, _ :: _, h => by simp [Reads.len h.2]
theorem Reads.mono {w w' : World} (hm : ∀ o l, OptAt w o l → OptAt w' o l) : ∀ {os : List OptV} {ls : List (Int × List Int)}, Reads w os ls → Reads w' os ls
  | [], [], _ => trivial
  | _ :: _, _ :: _, h => ⟨hm _ _ h.1, Reads.mono hm h.2⟩
theorem Reads.below {w w' : World} {os : List OptV} {ls : List (Int × List Int)} (h : Reads w os ls) (hb : Below w.heap.size w w') : Reads w' os ls := h.mono fun _ _ h => h.below hb
theorem Reads.drewN {w : World} {os : List OptV} {ls : List (Int × List Int)} (h : Reads w os ls) (k : Nat) : Reads (w.drewN k) os ls := Reads.mono (w := w) (w' := w.drewN k) (fun _ _ h => ⟨h.1, h.2.1, h.2.2.1, h.2.2.2.1, ⟨h.2.2.2.2.len, h.2.2.2.2.byte, h.2.2.2.2.at_⟩⟩) h
theorem Reads.app {w : World} : ∀ {a b : List OptV} {k l : List (Int × List Int)}, Reads w a k → Reads w b l → Reads w (a ++ b) (k ++ l)
  | [], _, [], _, _, h => h
  | _ :: _, _, _ :: _, _, h, h' => ⟨h.1, Reads.app h.2 h'⟩
theorem Reads.take {w : World} : ∀ {os : List OptV} {ls : List (Int × List Int)} (k : Nat), Reads w os ls → Reads w (os.take k) (ls.take k)
  | _, _, 0, _ => by simp [Reads]
  | [], [], _ + 1, _ => trivial
  | _ :: _, _ :: _, k + 1, h => ⟨h.1, Reads.take k h.2⟩
theorem Reads.get {w : World} : ∀ {os : List OptV} {ls : List (Int × List Int)}, Reads w os ls → ∀ i, i < os.length → OptAt w (os.getD i .none) (ls.getD i (0, []))
  | [], [], _, _, hi => by simp at hi
  | _ :: _, _ :: _, h, 0, _ => by simpa using h.1
  | _ :: os, _ :: _, h, i + 1, hi => by simpa using Reads.get h.2 i (by simpa using hi)

theorem optCells_set (os : List OptV) (j : Nat) (A : Option Addr) (n c : Nat) (h : j < os.length) : (optCells os).set (j * 2 + 1) (.slice A n c) = optCells (os.set j ⟨(os.getD j .none).kind, A, n, c⟩) := by
  induction os generalizing j with
  | nil => simp at h
  | cons o os ih =>
    cases j with
    | zero => simp [optCells]
    | succ j =>
      have := ih j (by simpa using h)
      have e : (j + 1) * 2 = j * 2 + 1 + 1 := by omega
      rw [e]
      simpa [optCells] using this
/-- The block in which a slice begins. -/
def Blk (A : Option Addr) (k : Nat) : Prop := ∃ a, A = some a ∧ a.block = k
theorem grown_but {w w' : World} {A : Option Addr} {n c : Nat} (h : w.grownBy w' (Value.slice A n c).ownBlock) : But (Blk A) w w' :=
  ⟨h.os, h.tape, h.output, h.size, fun k hk hn => h.block k hk (fun e => hn (by
    cases A with
    | none => simp [Value.ownBlock] at e
    | some a => exact ⟨a, rfl, by simpa [Value.ownBlock] using e.symm⟩))⟩
/-- What the options point to does not begin in the block of the slice A. -/
def ApartO (os : List OptV) (A : Option Addr) : Prop := ∀ o ∈ os, ∀ b off, o.A = some ⟨b, off, Option.none⟩ → 0 < o.n → ¬ Blk A b
theorem Reads.but {S : Nat → Prop} {w w' : World} : ∀ {os : List OptV} {ls : List (Int × List Int)}, Reads w os ls → But S w w' → (∀ o ∈ os, ∀ b off, o.A = some ⟨b, off, Option.none⟩ → 0 < o.n → ¬ S b) → Reads w' os ls
  | [], [], _, _, _ => trivial
  | o :: os, l :: ls, h, hb, hs => ⟨⟨h.1.1, h.1.2.1, h.1.2.2.1, h.1.2.2.2.1, h.1.2.2.2.2.but hb (hs o (by simp))⟩, Reads.but h.2 hb (fun o' ho' => hs o' (by simp [ho']))⟩
theorem Reads.blk {w : World} : ∀ {os : List OptV} {ls : List (Int × List Int)}, Reads w os ls → ∀ o ∈ os, ∀ b off, o.A = some ⟨b, off, Option.none⟩ → 0 < o.n → b < w.heap.size
  | [], [], _, o, ho, _, _, _, _ => by simp at ho
  | o' :: os, l :: ls, h, o, ho, b, off, he, hn => by
    rcases List.mem_cons.1 ho with rfl | ho
    · obtain ⟨b', off', e', hlt, _⟩ := h.1.2.2.2.2.at_ hn
      rw [he] at e'
      injection e' with e'
      injection e' with e1 _
      subst e1; exact hlt
    · exact Reads.blk h.2 o ho b off he hn
/-- Lists out of what holds place by place. -/
theorem lists_of {w : World} {P : Nat → OptV → Prop} : ∀ (n : Nat), (∀ i, i < n → ∃ o l, P i o ∧ OptAt w o l) → ∃ os ls, os.length = n ∧ (∀ i, i < n → P i (os.getD i .none)) ∧ Reads w os ls
  | 0, _ => ⟨[], [], rfl, fun _ h => absurd h (by omega), trivial⟩
  | n + 1, h => by
    obtain ⟨os, ls, h1, h2, h3⟩ := lists_of (P := P) n (fun i hi => h i (by omega))
    obtain ⟨o, l, hp, ho⟩ := h n (by omega)
    refine ⟨os ++ [o], ls ++ [l], by simp [h1], fun i hi => ?_, h3.app ⟨ho, trivial⟩⟩
    rcases Nat.lt_or_ge i n with hlt | hge
    · have e : (os ++ [o]).getD i .none = os.getD i .none := by simp [List.getD, List.getElem?_append_left (by omega : i < os.length)]
      rw [e]; exact h2 i hlt
    · obtain rfl : i = n := by omega
      have e : (os ++ [o]).getD i .none = o := by simp [List.getD, ← h1]
      rw [e]; exact hp

def OptsAt (w : World) (v : Value) : Prop := ∃ A n c os ls, v = .slice A n c ∧ n ≤ c ∧ c ≤ maxLen ∧ RdO w A n os ∧ Reads w os ls

end Go.Proofs.YtgcliijngaohdaaDoor
