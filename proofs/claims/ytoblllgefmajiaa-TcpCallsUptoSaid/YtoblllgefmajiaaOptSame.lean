/-
  The contracts of package opts' Same and Without, and of bytes.Equal.
-/
import Derived.Test.YtoblllgefmajiaaOptRead
import Derived.Laws.BytesArg
import Derived.Laws.IdiomStrings
import Derived.Lib.SlBytesConst
namespace Go.Proofs.Ytoblllgefmajiaa
set_option maxRecDepth 10000
open Go.RowKit

theorem equal_any (A A' : Option Addr) (n n' c c' : Nat) (l l' : List Int) (w : World) (h : Rd w A n l) (h' : Rd w A' n' l') :
    Calls Try.prog 35 #[.slice A n c, .slice A' n' c'] w fun e w' => e = .returned (.bool (decide (l = l'))) ∧ w = w' := by
  have h1 := conv_rd h c
  have h2 := conv_rd h' c'
  have Hd := Lib.hid (strs_eq_ l l' h.byte h'.byte)
  clear h h'
  go_enter Try.func35, Try.ntmps35
  go_wp2
  go_ret
  exact ⟨ret_bool (Hd.out), rfl⟩

theorem same1_any (k1 k2 : Int) (A1 A2 : Option Addr) (n1 c1 n2 c2 : Nat) (d1 d2 : List Int) (w : World) (h1 : Rd w A1 n1 d1) (h2 : Rd w A2 n2 d2) :
    Calls Try.prog 98 #[.agg #[.int .u8 k1, .slice A1 n1 c1], .agg #[.int .u8 k2, .slice A2 n2 c2]] w (OptBool (decide ((k1, d1) = (k2, d2))) w) := by
  have hb := ((Below.refl w.heap.size w).alloc (Nat.le_refl _) (.cells #[.int .u8 k1, .slice A1 n1 c1] 39)).alloc (by simp) (.cells #[.int .u8 k2, .slice A2 n2 c2] 39)
  have He := Lib.hid (equal_any A1 A2 n1 n2 c1 c2 d1 d2 _ (h1.below hb) (h2.below hb))
  have Hb := Lib.hid hb
  clear h1 h2 hb
  by_cases hk : k1 = k2
  · subst hk
    go_enter Try.func98, Try.ntmps98
    go_wp2_with fail
    refine He.out.mono ?_
    rintro e w' ⟨rfl, rfl⟩
    go_wp2_with fail
    go_ret
    exact ⟨by simp, Hb.out⟩
  · have hk2 : (k1 == k2) = false := by simpa using hk
    have Hx := Lib.hid (show decide ((k1, d1) = (k2, d2)) = false by simp [hk])
    clear hk
    go_enter Try.func98, Try.ntmps98
    go_wp2_with fail
    go_ret
    exact ⟨by rw [Hx.out]; rfl, Hb.out⟩

theorem equalf_any (A A' : Option Addr) (n c n' c' : Nat) (os os' : List OptV) (ls ls' : List (Int × List Int)) (w : World) (hn : n ≤ 2000000) (hr : RdO w A n os) (hs : Reads w os ls) (hr' : RdO w A' n' os') (hs' : Reads w os' ls') :
    Calls Try.prog 97 #[.slice A n c, .slice A' n' c', .func (.func 98) #[] #[]] w (OptBool (decide (ls = ls')) w) := by
  have hl : ls.length = n := by rw [← hs.len, hr.len]
  have hl' : ls'.length = n' := by rw [← hs'.len, hr'.len]
  by_cases hnn : n = n'
  · subst hnn
    have Hl := Lib.hid hl
    have Hl' := Lib.hid hl'
    have Hr := Lib.hid hr
    have Hr' := Lib.hid hr'
    have Hs := Lib.hid hs
    have Hs' := Lib.hid hs'
    clear hl hl' hr hr' hs hs'
    go_enter Try.func97, Try.ntmps97
    go_wp2_with fail
    go_loopg [17] n (fun gk i wr => ∃ j : Nat, Hid (gk + j = n) ∧ j ≤ n ∧ i = .int .i64 (j : Int) ∧ Hid (ls.take j = ls'.take j) ∧ Below w.heap.size w wr)
    case atStart => exact ⟨0, rfl, Nat.zero_le _, rfl, rfl, Below.refl _ _⟩
    case round =>
      obtain ⟨j, hgk, hj, rfl, heq, hb⟩ := hrel
      by_cases hjn : j < n
      · obtain ⟨b1, p1, hrun1, hb1, hk1, hd1⟩ := (Hr.out.below hb).index (c := c) hjn
        obtain ⟨b2, p2, hrun2, hb2, hk2, hd2⟩ := (Hr'.out.below hb).index (c := c') hjn
        have o1 := (Hs.out.below hb).get j (by rw [Hr.out.len]; exact hjn)
        have o2 := (Hs'.out.below hb).get j (by rw [Hr'.out.len]; exact hjn)
        obtain ⟨v1, ev1⟩ : ∃ v, os.getD j .none = v := ⟨_, rfl⟩
        obtain ⟨v2, ev2⟩ : ∃ v, os'.getD j .none = v := ⟨_, rfl⟩
        obtain ⟨l1, el1⟩ : ∃ v, ls.getD j (0, []) = v := ⟨_, rfl⟩
        obtain ⟨l2, el2⟩ : ∃ v, ls'.getD j (0, []) = v := ⟨_, rfl⟩
        rw [ev1] at hk1 hd1 o1
        rw [ev2] at hk2 hd2 o2
        rw [el1] at o1
        rw [el2] at o2
        obtain ⟨kd1, A1, n1, c1⟩ := v1
        obtain ⟨kd2, A2, n2, c2⟩ := v2
        obtain ⟨t1, d1⟩ := l1
        obtain ⟨t2, d2⟩ := l2
        obtain ⟨rfl, -, -, -, r1⟩ := o1
        obtain ⟨rfl, -, -, -, r2⟩ := o2
        simp only at hk1 hd1 hk2 hd2 r1 r2
        have El1 := Lib.hid el1
        have El2 := Lib.hid el2
        have hbx : Below wr.heap.size wr ((wr.alloc (.cells #[.int .u8 kd1, .slice A1 n1 c1] 39)).alloc (.cells #[.int .u8 kd2, .slice A2 n2 c2] 39)) := ((Below.refl _ _).alloc (Nat.le_refl _) _).alloc (by simp) _
        have Hsm := Lib.hid (same1_any kd1 kd2 A1 A2 n1 c1 n2 c2 d1 d2 _ (r1.below hbx) (r2.below hbx))
        have Hbx := Lib.hid (hb.trans (hbx.mono hb.size))
        have hk2' := (((Below.refl wr.heap.size wr).alloc (Nat.le_refl _) (.cells #[.int .u8 kd1, .slice A1 n1 c1] 39)).cell (p := ⟨b2, p2, none⟩) hb2).trans hk2
        have hd2' := (((Below.refl wr.heap.size wr).alloc (Nat.le_refl _) (.cells #[.int .u8 kd1, .slice A1 n1 c1] 39)).cell (p := ⟨b2, p2 + 1, none⟩) hb2).trans hd2
        clear ev1 ev2 el1 el2 r1 r2 hbx hk2 hd2
        go_wp2_with fail
        refine Hsm.out.mono ?_
        rintro e w2 ⟨rfl, hb3⟩
        have Hb3 := Lib.hid (Hbx.out.trans (hb3.mono Hbx.out.size))
        clear hb3
        by_cases hee : (kd1, d1) = (kd2, d2)
        · have Heq := Lib.hid (show ls.take (j + 1) = ls'.take (j + 1) by rw [take_snoc_ ls j (0, []) (by rw [Hl.out]; exact hjn), take_snoc_ ls' j (0, []) (by rw [Hl'.out]; exact hjn), heq.out, El1.out, El2.out, hee])
          rw [decide_eq_true hee]
          clear hee
          go_wp2_with fail
          go_roundg (gk - 1)
          case measure => have := hgk.out; omega
          case rel => exact ⟨j + 1, by have := hgk.out; show gk - 1 + (j + 1) = _; omega, by omega, by go_num, Heq, Hb3.out⟩
        · have Hfin := Lib.hid (show decide (ls = ls') = false by
            have : ls ≠ ls' := getD_ne (j := j) (d := (0, [])) (by rw [El1.out, El2.out]; exact hee)
            simpa using this)
          rw [decide_eq_false hee]
          clear hee
          go_wp2_with fail
          go_ret
          exact ⟨by rw [Hfin.out]; rfl, Hb3.out⟩
      · obtain rfl : n = j := by omega
        have Hfin := Lib.hid (show decide (ls = ls') = true by
          have h := heq.out
          rw [List.take_of_length_le (by rw [Hl.out]; omega), List.take_of_length_le (by rw [Hl'.out]; omega)] at h
          simpa using h)
        go_wp2_with fail
        go_ret
        exact ⟨by rw [Hfin.out]; rfl, hb⟩
  · have Hfin := Lib.hid (show decide (ls = ls') = false by
      have : ls ≠ ls' := fun e => hnn (by rw [← hl, ← hl', e])
      simpa using this)
    have h1 : ((n : Int) == (n' : Int)) = false := by simp; omega
    have h2 : ((n : Int) != (n' : Int)) = true := by simp; omega
    clear hr hs hr' hs' hl hl' hnn
    go_enter Try.func97, Try.ntmps97
    go_wp2_with fail
    go_ret
    exact ⟨by rw [Hfin.out]; rfl, Below.refl _ _⟩

theorem same_any (A A' : Option Addr) (n c n' c' : Nat) (os os' : List OptV) (ls ls' : List (Int × List Int)) (w : World) (hn : n ≤ 2000000) (hr : RdO w A n os) (hs : Reads w os ls) (hr' : RdO w A' n' os') (hs' : Reads w os' ls') :
    Calls Try.prog 68 #[.slice A n c, .slice A' n' c'] w (OptBool (decide (ls = ls')) w) := by
  have He := Lib.hid (equalf_any A A' n c n' c' os os' ls ls' w hn hr hs hr' hs')
  clear hr hs hr' hs'
  go_enter Try.func68, Try.ntmps68
  go_wp2_with fail
  refine He.out.mono ?_
  rintro e w2 ⟨rfl, hb⟩
  have Hb := Lib.hid hb
  clear hb
  go_wp2_with fail
  go_ret
  exact ⟨rfl, Hb.out⟩

/-- A row of options of the call's own, their bytes too. -/
def OptsOwn (n : Nat) (ls : List (Int × List Int)) (w : World) (e : Ending) (w' : World) : Prop :=
  ∃ A c os, e = .returned (.slice A n c) ∧ OwnO w' w.heap.size A n c os ∧ OwnL w' w.heap.size os ls ∧ Below w.heap.size w w'
theorem withoutL_snoc (kind : Int) (a : List (Int × List Int)) (l : Int × List Int) : withoutL kind (a ++ [l]) = if l.1 = kind then withoutL kind a else withoutL kind a ++ [l] := by
  unfold withoutL
  rw [List.filter_append]
  by_cases h : l.1 = kind
  · rw [if_pos h, List.filter_cons_of_neg (by simp [h])]; simp
  · rw [if_neg h, List.filter_cons_of_pos (by simpa using h)]; simp
theorem withoutL_le (kind : Int) (a : List (Int × List Int)) : (withoutL kind a).length ≤ a.length := List.length_filter_le _ _

end Go.Proofs.Ytoblllgefmajiaa
