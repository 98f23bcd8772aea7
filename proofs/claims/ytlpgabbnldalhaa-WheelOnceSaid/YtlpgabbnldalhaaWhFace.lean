/-
  What a wheel's calls must do, whatever it is made of ('WFace', to be shown of the program's own): the laws are walked over that; culvertlaw12's told.
-/
import Derived.Test.YtlpgabbnldalhaaWhSet
import Derived.Test.YtlpgabbnldalhaaWhPlain
namespace Go.Proofs.Ytlpgabbnldalhaa
set_option maxRecDepth 10000
open Go.RowKit
set_option linter.unusedSimpArgs false
set_option linter.unusedVariables false

abbrev bigW : Int := 1099511627776
abbrev topW : Int := 18446744073709551616
def setE (at_ : Int) : Int := if bigW < at_ then 1 else 0
def setA (id at_ : Int) (L : AL) : AL := if bigW < at_ then L else setW id at_ L
def stopE (id : Int) (L : AL) : Int := if (stopW id L).length = L.length then 6 else 0
def badT (ck now : Int) : Bool := decide (now < ck ∨ bigW < now)
def tickE (ck now : Int) : Int := if badT ck now = true then 1 else 0
def tickC (ck now : Int) : Int := if badT ck now = true then ck else now
def tickL (ck now : Int) (L : AL) : List Int := if badT ck now = true then [] else (dueW now L).map Prod.fst
def tickA (ck now : Int) (L : AL) : AL := if badT ck now = true then L else leftW now L
def atV (id : Int) (L : AL) : Int × Bool := match atW id L with | none => (0, false) | some a => (a.2, true)
abbrev WA := World → (Nat → Prop) → Nat → Int → AL → Prop
def WDoes (WAt : WA) (S : Nat → Prop) (g : Nat) (ck : Int) (L : AL) (v : Value) (w : World) (e : Ending) (w' : World) : Prop := e = .returned v ∧ ∃ S', WAt w' S' g ck L ∧ But S w w' ∧ ∀ k, S' k → S k ∨ w.heap.size ≤ k
def WTicks (WAt : WA) (S : Nat → Prop) (g : Nat) (ck : Int) (L : AL) (l : List Int) (x : Int) (w : World) (e : Ending) (w' : World) : Prop :=
  ∃ v, e = .returned (.tuple #[v, .int .i64 x]) ∧ Sl w' 23 .u64 v l ∧ ∃ S', WAt w' S' g ck L ∧ But S w w' ∧ (∀ k, S' k → S k ∨ w.heap.size ≤ k) ∧ ∀ b, v.ownBlock = some b → w.heap.size ≤ b ∧ ¬ S' b
def WNews (WAt : WA) (w : World) (e : Ending) (w' : World) : Prop := ∃ g S, e = .returned (.pointer (some ⟨g, 0, none⟩)) ∧ WAt w' S g 0 [] ∧ Below w.heap.size w w' ∧ ∀ k, S k → w.heap.size ≤ k
def WCopies (WAt : WA) (S : Nat → Prop) (g : Nat) (ck : Int) (L : AL) (w : World) (e : Ending) (w' : World) : Prop :=
  ∃ g2 S1 S2, e = .returned (.pointer (some ⟨g2, 0, none⟩)) ∧ WAt w' S1 g ck L ∧ WAt w' S2 g2 ck L ∧ But S w w' ∧ (∀ k, S1 k → S k ∨ w.heap.size ≤ k) ∧ (∀ k, S2 k → w.heap.size ≤ k) ∧ ∀ k, S1 k → ¬ S2 k
structure WFace (WAt : WA) : Prop where
  but : ∀ {w w' : World} {S T : Nat → Prop} {g : Nat} {ck : Int} {L : AL}, WAt w S g ck L → But T w w' → (∀ k, S k → ¬ T k) → WAt w' S g ck L
  lt : ∀ {w : World} {S : Nat → Prop} {g : Nat} {ck : Int} {L : AL}, WAt w S g ck L → ∀ k, S k → k < w.heap.size
  ok : ∀ {w : World} {S : Nat → Prop} {g : Nat} {ck : Int} {L : AL}, WAt w S g ck L → okW L ∧ 0 ≤ ck ∧ ck ≤ bigW
  new_ : ∀ w, Calls Try.prog 8 #[] w (WNews WAt w)
  set_ : ∀ (S : Nat → Prop) (g : Nat) (ck id at_ : Int) (L : AL) (w : World), WAt w S g ck L → L.length ≤ 1000000 → (0 ≤ id ∧ id < topW) → (0 ≤ at_ ∧ at_ < topW) →
    Calls Try.prog 9 #[.pointer (some ⟨g, 0, none⟩), .int .u64 id, .int .u64 at_] w (WDoes WAt S g ck (setA id at_ L) (.int .i64 (setE at_)) w)
  stop_ : ∀ (S : Nat → Prop) (g : Nat) (ck id : Int) (L : AL) (w : World), WAt w S g ck L → L.length ≤ 1000000 → (0 ≤ id ∧ id < topW) →
    Calls Try.prog 11 #[.pointer (some ⟨g, 0, none⟩), .int .u64 id] w (WDoes WAt S g ck (stopW id L) (.int .i64 (stopE id L)) w)
  at_ : ∀ (S : Nat → Prop) (g : Nat) (ck id : Int) (L : AL) (w : World), WAt w S g ck L → L.length ≤ 1000000 → (0 ≤ id ∧ id < topW) →
    Calls Try.prog 19 #[.pointer (some ⟨g, 0, none⟩), .int .u64 id] w (WDoes WAt S g ck L (.tuple #[.int .u64 (atV id L).1, .bool (atV id L).2]) w)
  next_ : ∀ (S : Nat → Prop) (g : Nat) (ck : Int) (L : AL) (w : World), WAt w S g ck L → L.length ≤ 1000000 →
    Calls Try.prog 17 #[.pointer (some ⟨g, 0, none⟩)] w (WDoes WAt S g ck L (.tuple #[.int .u64 (nextW L).1, .bool (nextW L).2]) w)
  now_ : ∀ (S : Nat → Prop) (g : Nat) (ck : Int) (L : AL) (w : World), WAt w S g ck L → Calls Try.prog 21 #[.pointer (some ⟨g, 0, none⟩)] w (QuietW (.int .u64 ck) w)
  len_ : ∀ (S : Nat → Prop) (g : Nat) (ck : Int) (L : AL) (w : World), WAt w S g ck L → L.length ≤ 1000000 → Calls Try.prog 22 #[.pointer (some ⟨g, 0, none⟩)] w (QuietW (.int .i64 (L.length : Int)) w)
  tick_ : ∀ (S : Nat → Prop) (g : Nat) (ck now : Int) (L : AL) (w : World), WAt w S g ck L → L.length ≤ 1000000 → (0 ≤ now ∧ now < topW) →
    Calls Try.prog 13 #[.pointer (some ⟨g, 0, none⟩), .int .u64 now] w (WTicks WAt S g (tickC ck now) (tickA ck now L) (tickL ck now L) (tickE ck now) w)
  copy_ : ∀ (S : Nat → Prop) (g : Nat) (ck : Int) (L : AL) (w : World), WAt w S g ck L → L.length ≤ 1000000 → Calls Try.prog 16 #[.pointer (some ⟨g, 0, none⟩)] w (WCopies WAt S g ck L w)
theorem leftW_le (t : Int) (L : AL) : (leftW t L).length ≤ L.length := (List.dropWhile_sublist _).length_le
theorem dueW_le (t : Int) (L : AL) : (dueW t L).length ≤ L.length := (List.takeWhile_sublist _).length_le
theorem stopW_le (id : Int) (L : AL) : (stopW id L).length ≤ L.length := List.length_filter_le _ _
theorem setA_le (id at_ : Int) (L : AL) : (setA id at_ L).length ≤ L.length + 1 := by
  unfold setA
  split
  · omega
  · rw [set_length]; have := stopW_le id L; omega
theorem tickA_le (ck now : Int) (L : AL) : (tickA ck now L).length ≤ L.length := by
  unfold tickA
  split
  · omega
  · exact leftW_le _ _
theorem tickL_le (ck now : Int) (L : AL) : (tickL ck now L).length ≤ L.length := by
  unfold tickL
  split
  · simp
  · rw [List.length_map]; exact dueW_le _ _
variable {WAt : WA}
theorem told_any (F : WFace WAt) (S : Nat → Prop) (g : Nat) (ck now : Int) (L : AL) (v : Value) (l : List Int) (x : Bool) (w : World) (h : WAt w S g ck L) (hn : L.length ≤ 1000000) (hnow : 0 ≤ now ∧ now < topW) (hv : Sl w 23 .u64 v l) (hvS : ∀ b, v.ownBlock = some b → ¬ S b)
    (hx : (decide (tickE ck now = 0) && decide (tickL ck now L = l)) = x) :
    Calls Try.prog 24 #[.pointer (some ⟨g, 0, none⟩), .int .u64 now, v] w (WDoes WAt S g (tickC ck now) (tickA ck now L) (.bool x) w) := by
  have Htick := Lib.hid (F.tick_ S g ck now L w h hn hnow)
  have hll := tickL_le ck now L
  obtain ⟨y, ey⟩ : ∃ y, tickE ck now = y := ⟨_, rfl⟩
  obtain ⟨l1, el⟩ : ∃ l1, tickL ck now L = l1 := ⟨_, rfl⟩
  rw [ey, el] at Htick hx
  rw [el] at hll
  have hl1 : l1.length ≤ 1000000 := by omega
  obtain ⟨L2, eL⟩ : ∃ L2, tickA ck now L = L2 := ⟨_, rfl⟩
  obtain ⟨c2, ec⟩ : ∃ c2, tickC ck now = c2 := ⟨_, rfl⟩
  rw [eL, ec] at Htick ⊢
  have Hv := Lib.hid hv
  have HvS := Lib.hid hvS
  have HF := Lib.hid F
  have Hx := Lib.hid hx
  obtain ⟨A, c, ev, -⟩ := hv.form
  clear h hv hvS hx eL ec ey el F hll hn hnow
  by_cases hy : y = 0
  · subst hy
    subst ev
    have Hx2 := Lib.hid (show decide (l1 = l) = x by have := Hx.out; simpa using this)
    go_enter Try.func24, Try.ntmps24
    go_wp2_with fail
    refine Htick.out.mono ?_
    rintro e w1 ⟨v1, rfl, hl, S', hW, hB, hS', hfr⟩
    have HW := Lib.hid hW
    have HB := Lib.hid hB
    have HS' := Lib.hid hS'
    have Hs := Lib.hid (same12_any v1 _ l1 l x w1 hl (Hv.out.but hB (fun b hb => HvS.out b hb)) hl1 Hx2.out)
    clear hl hW hB hS' hfr
    go_wp2_with fail
    refine Hs.out.mono ?_
    rintro e w2 ⟨rfl, m, rfl⟩
    go_wp2_with fail
    go_ret
    exact ⟨rfl, S', HF.out.but (T := fun _ => False) HW.out ((But.refl _ _).drewN m) (fun _ _ h => h), HB.out.trans ((But.refl _ _).drewN m), HS'.out⟩
  · have hyb : (y == 0) = false := by simpa using hy
    have Hx2 := Lib.hid (show x = false by have := Hx.out; simpa [hy] using this.symm)
    clear hy
    go_enter Try.func24, Try.ntmps24
    go_wp2_with fail
    refine Htick.out.mono ?_
    rintro e w1 ⟨v1, rfl, hl, S', hW, hB, hS', hfr⟩
    have HW := Lib.hid hW
    have HB := Lib.hid hB
    have HS' := Lib.hid hS'
    clear hl hW hB hS' hfr
    go_wp2_with fail
    go_ret
    exact ⟨by rw [Hx2.out]; rfl, S', HW.out, HB.out, HS'.out⟩
end Go.Proofs.Ytlpgabbnldalhaa
