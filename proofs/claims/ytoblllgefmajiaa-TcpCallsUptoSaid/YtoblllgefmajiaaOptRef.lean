/-
  The contracts of the document's own answers for options (culvertref05): Same, Without.
-/
import Derived.Test.YtoblllgefmajiaaOptFew
import Derived.Deep.QuietTactic
import Derived.BigQuiet
namespace Go.Proofs.Ytoblllgefmajiaa
set_option maxRecDepth 10000
open Go.RowKit

def OptBool (x : Bool) (w : World) (e : Ending) (w' : World) : Prop := e = .returned (.bool x) ∧ Below w.heap.size w w'
theorem below_drewN_ {B : Nat} {a w : World} (h : Below B a w) (n : Nat) : Below B a (w.drewN n) := ⟨h.os, h.tape, h.output, h.size, h.block⟩
theorem Rd.drewN_ {w : World} {A : Option Addr} {n : Nat} {l : List Int} (h : Rd w A n l) (k : Nat) : Rd (w.drewN k) A n l := ⟨h.len, h.byte, h.at_⟩
theorem strs_eq_ (a b : List Int) (ha : ∀ x ∈ a, 0 ≤ x ∧ x < 256) (hb : ∀ x ∈ b, 0 ≤ x ∧ x < 256) : ((strOfNums a).toList == (strOfNums b).toList) = decide (a = b) := by
  rw [ByteArray.toList_eq, ByteArray.toList_eq]
  by_cases e : a = b
  · subst e; simp
  · rw [beq_eq_false_iff_ne.2 (fun x => e (nums_inj _ _ ha hb (by simpa [strOfNums_data] using x)))]
    simp [e]
theorem take_snoc_ {α : Type} (l : List α) (j : Nat) (d : α) (h : j < l.length) : l.take (j + 1) = l.take j ++ [l.getD j d] := by
  rw [List.take_succ_eq_append_getElem h]; simp [List.getD, List.getElem?_eq_getElem h]
theorem getD_ne {α : Type} {l l' : List α} {j : Nat} {d : α} (h : l.getD j d ≠ l'.getD j d) : l ≠ l' := fun e => h (by rw [e])

theorem rsame_any (A A' : Option Addr) (n c n' c' : Nat) (os os' : List OptV) (ls ls' : List (Int × List Int)) (w : World) (hn : n ≤ maxLen) (hr : RdO w A n os) (hs : Reads w os ls) (hr' : RdO w A' n' os') (hs' : Reads w os' ls') :
    Calls Try.prog 67 #[.slice A n c, .slice A' n' c'] w (OptBool (decide (ls = ls')) w) := by
  have hl : ls.length = n := by rw [← hs.len, hr.len]
  have hl' : ls'.length = n' := by rw [← hs'.len, hr'.len]
  unfold maxLen at hn
  by_cases hnn : n = n'
  · subst hnn
    have Hl := Lib.hid hl
    have Hl' := Lib.hid hl'
    have Hr := Lib.hid hr
    have Hr' := Lib.hid hr'
    have Hs := Lib.hid hs
    have Hs' := Lib.hid hs'
    clear hl hl' hr hr' hs hs'
    go_enter Try.func67, Try.ntmps67
    go_wp2_with fail
    go_loopg [5] n (fun gk i wr => ∃ j : Nat, Hid (gk + j = n) ∧ j ≤ n ∧ i = .int .i64 (j : Int) ∧ Hid (ls.take j = ls'.take j) ∧ Below w.heap.size w wr)
    case atStart => exact ⟨0, rfl, Nat.zero_le _, rfl, rfl, Below.refl _ _⟩
    case round =>
      obtain ⟨j, hgk, hj, rfl, heq, hb⟩ := hrel
      by_cases hjn : j < n
      · obtain ⟨b1, p1, hrun1, hb1, hk1, hd1⟩ := (Hr.out.below hb).index (c := c) hjn
        obtain ⟨b2, p2, hrun2, hb2, hk2, hd2⟩ := (Hr'.out.below hb).index (c := c') hjn
        have o1 := (Hs.out.below hb).get j (by rw [Hr.out.len]; exact hjn)
        have o2 := (Hs'.out.below hb).get j (by rw [Hr'.out.len]; exact hjn)
        obtain ⟨v1, ev1⟩ : ∃ v, os.getD j .none = v := ⟨_, rfl⟩
        obtain ⟨v2, ev2⟩ : ∃ v, os'.getD j .none = v := ⟨_, rfl⟩
        obtain ⟨l1, el1⟩ : ∃ v, ls.getD j (0, []) = v := ⟨_, rfl⟩
        obtain ⟨l2, el2⟩ : ∃ v, ls'.getD j (0, []) = v := ⟨_, rfl⟩
        rw [ev1] at hk1 hd1 o1
        rw [ev2] at hk2 hd2 o2
        rw [el1] at o1
        rw [el2] at o2
        obtain ⟨kd1, A1, n1, c1⟩ := v1
        obtain ⟨kd2, A2, n2, c2⟩ := v2
        obtain ⟨t1, d1⟩ := l1
        obtain ⟨t2, d2⟩ := l2
        obtain ⟨rfl, -, -, -, r1⟩ := o1
        obtain ⟨rfl, -, -, -, r2⟩ := o2
        have q1 := fun k => conv_rd (r1.drewN_ k) c1
        have q2 := fun k => conv_rd (r2.drewN_ k) c2
        have hse := strs_eq_ d1 d2 r1.byte r2.byte
        have El1 := Lib.hid el1
        have El2 := Lib.hid el2
        clear r1 r2 ev1 ev2 el1 el2
        by_cases hkk : kd1 = kd2
        · subst hkk
          by_cases hdd : d1 = d2
          · subst hdd
            clear hse
            go_wp2_with fail
            go_quiet (fail)
            go_wp2_with fail
            go_roundg (gk - 1)
            case measure => have := hgk.out; omega
            case rel => exact ⟨j + 1, by have := hgk.out; show gk - 1 + (j + 1) = _; omega, by omega, by go_num, Lib.hid (by rw [take_snoc_ ls j (0, []) (by rw [Hl.out]; exact hjn), take_snoc_ ls' j (0, []) (by rw [Hl'.out]; exact hjn), heq.out, El1.out, El2.out]), below_drewN_ hb _⟩
          · have hdn : ((strOfNums d1).toList == (strOfNums d2).toList) = false := by rw [hse]; simp [hdd]
            have hdn2 : ((strOfNums d1).toList != (strOfNums d2).toList) = true := by simp [bne, hdn]
            have hfin : decide (ls = ls') = false := by
              have : ls ≠ ls' := getD_ne (j := j) (d := (0, [])) (by rw [El1.out, El2.out]; simpa using hdd)
              simpa using this
            have Hfin := Lib.hid hfin
            have Hdd := Lib.hid hdd
            clear hse hdd hfin
            obtain ⟨s1, es1⟩ : ∃ s1, strOfNums d1 = s1 := ⟨_, rfl⟩
            obtain ⟨s2, es2⟩ : ∃ s2, strOfNums d2 = s2 := ⟨_, rfl⟩
            rw [es1] at q1 hdn hdn2
            rw [es2] at q2 hdn hdn2
            clear es1 es2
            go_wp2_with fail
            go_quiet (fail)
            go_wp2_with fail
            go_ret
            exact ⟨by rw [Hfin.out]; rfl, below_drewN_ hb _⟩
        · have hkn : (kd1 == kd2) = false := by simpa using hkk
          have hkn2 : (kd1 != kd2) = true := by simpa using hkk
          have hfin : decide (ls = ls') = false := by
            have : ls ≠ ls' := getD_ne (j := j) (d := (0, [])) (by rw [El1.out, El2.out]; simp [hkk])
            simpa using this
          have Hfin := Lib.hid hfin
          clear hse hkk hfin q1 q2
          go_wp2_with fail
          go_quiet (fail)
          go_wp2_with fail
          go_ret
          exact ⟨by rw [Hfin.out]; rfl, below_drewN_ hb _⟩
      · obtain rfl : j = n := by omega
        have hfin : decide (ls = ls') = true := by
          have h := heq.out
          rw [List.take_of_length_le (by rw [Hl.out]; omega), List.take_of_length_le (by rw [Hl'.out]; omega)] at h
          simpa using h
        have Hfin := Lib.hid hfin
        clear hfin
        go_wp2_with fail
        go_ret
        exact ⟨by rw [Hfin.out]; rfl, hb⟩
  · have hfin : decide (ls = ls') = false := by
      have : ls ≠ ls' := fun e => hnn (by rw [← hl, ← hl', e])
      simpa using this
    rw [hfin]
    have h1 : ((n : Int) == (n' : Int)) = false := by simp; omega
    have h2 : ((n : Int) != (n' : Int)) = true := by simp; omega
    clear hr hs hr' hs' hl hl' hfin
    go_enter Try.func67, Try.ntmps67
    go_wp2_with fail
    go_ret
    exact ⟨rfl, Below.refl _ _⟩

/-- An option's row that the walk has just laid. -/
theorem RdO.one (w : World) (g : Nat) (hg : w.heap.size = g) (t : TypeId) (fr : Nat × Nat) (kd : Int) (A : Option Addr) (n c : Nat) : RdO (w.alloc (.cells #[.int .u8 kd, .slice A n c] t fr)) (some ⟨g, 0, Option.none⟩) 1 [⟨kd, A, n, c⟩] := by
  subst hg
  refine ⟨rfl, fun _ => ⟨w.heap.size, 0, rfl, by simp, fun i hi => ?_⟩⟩
  obtain rfl : i = 0 := by omega
  simp only [World.cell?_alloc_mark]
  simp
def withoutL (kind : Int) (ls : List (Int × List Int)) : List (Int × List Int) := ls.filter fun l => l.1 != kind
def withoutO (kind : Int) (os : List OptV) : List OptV := os.filter fun o => o.kind != kind
theorem Reads.without {w : World} (kind : Int) : ∀ {os : List OptV} {ls : List (Int × List Int)}, Reads w os ls → Reads w (withoutO kind os) (withoutL kind ls)
  | [], [], _ => trivial
  | o :: os, l :: ls, h => by
    have ih := Reads.without kind h.2
    have e := h.1.1
    unfold withoutO withoutL at ih ⊢
    by_cases hk : o.kind = kind
    · rw [List.filter_cons_of_neg (by simp [hk]), List.filter_cons_of_neg (by rw [← e]; simp [hk])]
      exact ih
    · rw [List.filter_cons_of_pos (by simpa using hk), List.filter_cons_of_pos (by rw [← e]; simpa using hk)]
      exact ⟨h.1, ih⟩

end Go.Proofs.Ytoblllgefmajiaa
