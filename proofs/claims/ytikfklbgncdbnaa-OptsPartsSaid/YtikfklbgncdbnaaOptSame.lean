/-
  The contracts of package opts' Same and Without, and of bytes.Equal.
-/
import Derived.Test.YtikfklbgncdbnaaOptRead
import Derived.Laws.BytesArg
import Derived.Laws.IdiomStrings
import Derived.Lib.SlBytesConst
namespace Go.Proofs.Ytikfklbgncdbnaa
set_option maxRecDepth 10000
open Go.RowKit

theorem equal_any (A A' : Option Addr) (n n' c c' : Nat) (l l' : List Int) (w : World) (h : Rd w A n l) (h' : Rd w A' n' l') :
    Calls Try.prog 14 #[.slice A n c, .slice A' n' c'] w fun e w' => e = .returned (.bool (decide (l = l'))) ∧ w = w' := by
  have h1 := conv_rd h c
  have h2 := conv_rd h' c'
  have Hd := Lib.hid (strs_eq_ l l' h.byte h'.byte)
  clear h h'
  go_enter Try.func14, Try.ntmps14
  go_wp2
  go_ret
  exact ⟨ret_bool (Hd.out), rfl⟩

theorem same1_any (k1 k2 : Int) (A1 A2 : Option Addr) (n1 c1 n2 c2 : Nat) (d1 d2 : List Int) (w : World) (h1 : Rd w A1 n1 d1) (h2 : Rd w A2 n2 d2) :
    Calls Try.prog 49 #[.agg #[.int .u8 k1, .slice A1 n1 c1], .agg #[.int .u8 k2, .slice A2 n2 c2]] w (OptBool (decide ((k1, d1) = (k2, d2))) w) := by
  have hb := ((Below.refl w.heap.size w).alloc (Nat.le_refl _) (.cells #[.int .u8 k1, .slice A1 n1 c1] 31)).alloc (by simp) (.cells #[.int .u8 k2, .slice A2 n2 c2] 31)
  have He := Lib.hid (equal_any A1 A2 n1 n2 c1 c2 d1 d2 _ (h1.below hb) (h2.below hb))
  have Hb := Lib.hid hb
  clear h1 h2 hb
  by_cases hk : k1 = k2
  · subst hk
    go_enter Try.func49, Try.ntmps49
    go_wp2_with fail
    refine He.out.mono ?_
    rintro e w' ⟨rfl, rfl⟩
    go_wp2_with fail
    go_ret
    exact ⟨by simp, Hb.out⟩
  · have hk2 : (k1 == k2) = false := by simpa using hk
    have Hx := Lib.hid (show decide ((k1, d1) = (k2, d2)) = false by simp [hk])
    clear hk
    go_enter Try.func49, Try.ntmps49
    go_wp2_with fail
    go_ret
    exact ⟨by rw [Hx.out]; rfl, Hb.out⟩

theorem equalf_any (A A' : Option Addr) (n c n' c' : Nat) (os os' : List OptV) (ls ls' : List (Int × List Int)) (w : World) (hn : n ≤ 1000000) (hr : RdO w A n os) (hs : Reads w os ls) (hr' : RdO w A' n' os') (hs' : Reads w os' ls') :
    Calls Try.prog 48 #[.slice A n c, .slice A' n' c', .func (.func 49) #[] #[]] w (OptBool (decide (ls = ls')) w) := by
  have hl : ls.length = n := by rw [← hs.len, hr.len]
  have hl' : ls'.length = n' := by rw [← hs'.len, hr'.len]
  by_cases hnn : n = n'
  · subst hnn
    have Hl := Lib.hid hl
    have Hl' := Lib.hid hl'
    have Hr := Lib.hid hr
    have Hr' := Lib.hid hr'
    have Hs := Lib.hid hs
    have Hs' := Lib.hid hs'
    clear hl hl' hr hr' hs hs'
    go_enter Try.func48, Try.ntmps48
    go_wp2_with fail
    go_loopg [17] n (fun gk i wr => ∃ j : Nat, Hid (gk + j = n) ∧ j ≤ n ∧ i = .int .i64 (j : Int) ∧ Hid (ls.take j = ls'.take j) ∧ Below w.heap.size w wr)
    case atStart => exact ⟨0, rfl, Nat.zero_le _, rfl, rfl, Below.refl _ _⟩
    case round =>
      obtain ⟨j, hgk, hj, rfl, heq, hb⟩ := hrel
      by_cases hjn : j < n
      · obtain ⟨b1, p1, hrun1, hb1, hk1, hd1⟩ := (Hr.out.below hb).index (c := c) hjn
        obtain ⟨b2, p2, hrun2, hb2, hk2, hd2⟩ := (Hr'.out.below hb).index (c := c') hjn
        have o1 := (Hs.out.below hb).get j (by rw [Hr.out.len]; exact hjn)
        have o2 := (Hs'.out.below hb).get j (by rw [Hr'.out.len]; exact hjn)
        obtain ⟨v1, ev1⟩ : ∃ v, os.getD j .none = v := ⟨_, rfl⟩
        obtain ⟨v2, ev2⟩ : ∃ v, os'.getD j .none = v := ⟨_, rfl⟩
        obtain ⟨l1, el1⟩ : ∃ v, ls.getD j (0, []) = v := ⟨_, rfl⟩
        obtain ⟨l2, el2⟩ : ∃ v, ls'.getD j (0, []) = v := ⟨_, rfl⟩
        rw [ev1] at hk1 hd1 o1
        rw [ev2] at hk2 hd2 o2
        rw [el1] at o1
        rw [el2] at o2
        obtain ⟨kd1, A1, n1, c1⟩ := v1
        obtain ⟨kd2, A2, n2, c2⟩ := v2
        obtain ⟨t1, d1⟩ := l1
        obtain ⟨t2, d2⟩ := l2
        obtain ⟨rfl, -, -, -, r1⟩ := o1
        obtain ⟨rfl, -, -, -, r2⟩ := o2
        simp only at hk1 hd1 hk2 hd2 r1 r2
        have El1 := Lib.hid el1
        have El2 := Lib.hid el2
        have hbx : Below wr.heap.size wr ((wr.alloc (.cells #[.int .u8 kd1, .slice A1 n1 c1] 31)).alloc (.cells #[.int .u8 kd2, .slice A2 n2 c2] 31)) := ((Below.refl _ _).alloc (Nat.le_refl _) _).alloc (by simp) _
        have Hsm := Lib.hid (same1_any kd1 kd2 A1 A2 n1 c1 n2 c2 d1 d2 _ (r1.below hbx) (r2.below hbx))
        have Hbx := Lib.hid (hb.trans (hbx.mono hb.size))
        have hk2' := (((Below.refl wr.heap.size wr).alloc (Nat.le_refl _) (.cells #[.int .u8 kd1, .slice A1 n1 c1] 31)).cell (p := ⟨b2, p2, none⟩) hb2).trans hk2
        have hd2' := (((Below.refl wr.heap.size wr).alloc (Nat.le_refl _) (.cells #[.int .u8 kd1, .slice A1 n1 c1] 31)).cell (p := ⟨b2, p2 + 1, none⟩) hb2).trans hd2
        clear ev1 ev2 el1 el2 r1 r2 hbx hk2 hd2
        go_wp2_with fail
        refine Hsm.out.mono ?_
        rintro e w2 ⟨rfl, hb3⟩
        have Hb3 := Lib.hid (Hbx.out.trans (hb3.mono Hbx.out.size))
        clear hb3
        by_cases hee : (kd1, d1) = (kd2, d2)
        · have Heq := Lib.hid (show ls.take (j + 1) = ls'.take (j + 1) by rw [take_snoc_ ls j (0, []) (by rw [Hl.out]; exact hjn), take_snoc_ ls' j (0, []) (by rw [Hl'.out]; exact hjn), heq.out, El1.out, El2.out, hee])
          rw [decide_eq_true hee]
          clear hee
          go_wp2_with fail
          go_roundg (gk - 1)
          case measure => have := hgk.out; omega
          case rel => exact ⟨j + 1, by have := hgk.out; show gk - 1 + (j + 1) = _; omega, by omega, by go_num, Heq, Hb3.out⟩
        · have Hfin := Lib.hid (show decide (ls = ls') = false by
            have : ls ≠ ls' := getD_ne (j := j) (d := (0, [])) (by rw [El1.out, El2.out]; exact hee)
            simpa using this)
          rw [decide_eq_false hee]
          clear hee
          go_wp2_with fail
          go_ret
          exact ⟨by rw [Hfin.out]; rfl, Hb3.out⟩
      · obtain rfl : n = j := by omega
        have Hfin := Lib.hid (show decide (ls = ls') = true by
          have h := heq.out
          rw [List.take_of_length_le (by rw [Hl.out]; omega), List.take_of_length_le (by rw [Hl'.out]; omega)] at h
          simpa using h)
        go_wp2_with fail
        go_ret
        exact ⟨by rw [Hfin.out]; rfl, hb⟩
  · have Hfin := Lib.hid (show decide (ls = ls') = false by
      have : ls ≠ ls' := fun e => hnn (by rw [← hl, ← hl', e])
      simpa using this)
    have h1 : ((n : Int) == (n' : Int)) = false := by simp; omega
    have h2 : ((n : Int) != (n' : Int)) = true := by simp; omega
    clear hr hs hr' hs' hl hl' hnn
    go_enter Try.func48, Try.ntmps48
    go_wp2_with fail
    go_ret
    exact ⟨by rw [Hfin.out]; rfl, Below.refl _ _⟩

theorem same_any (A A' : Option Addr) (n c n' c' : Nat) (os os' : List OptV) (ls ls' : List (Int × List Int)) (w : World) (hn : n ≤ 1000000) (hr : RdO w A n os) (hs : Reads w os ls) (hr' : RdO w A' n' os') (hs' : Reads w os' ls') :
    Calls Try.prog 20 #[.slice A n c, .slice A' n' c'] w (OptBool (decide (ls = ls')) w) := by
  have He := Lib.hid (equalf_any A A' n c n' c' os os' ls ls' w hn hr hs hr' hs')
  clear hr hs hr' hs'
  go_enter Try.func20, Try.ntmps20
  go_wp2_with fail
  refine He.out.mono ?_
  rintro e w2 ⟨rfl, hb⟩
  have Hb := Lib.hid hb
  clear hb
  go_wp2_with fail
  go_ret
  exact ⟨rfl, Hb.out⟩

/-- A row of options of the call's own, their bytes too. -/
def OptsOwn (n : Nat) (ls : List (Int × List Int)) (w : World) (e : Ending) (w' : World) : Prop :=
  ∃ A c os, e = .returned (.slice A n c) ∧ OwnO w' w.heap.size A n c os ∧ OwnL w' w.heap.size os ls ∧ Below w.heap.size w w'
theorem withoutL_snoc (kind : Int) (a : List (Int × List Int)) (l : Int × List Int) : withoutL kind (a ++ [l]) = if l.1 = kind then withoutL kind a else withoutL kind a ++ [l] := by
  unfold withoutL
  rw [List.filter_append]
  by_cases h : l.1 = kind
  · rw [if_pos h, List.filter_cons_of_neg (by simp [h])]; simp
  · rw [if_neg h, List.filter_cons_of_pos (by simpa using h)]; simp
theorem withoutL_le (kind : Int) (a : List (Int × List Int)) : (withoutL kind a).length ≤ a.length := List.length_filter_le _ _

theorem without_any (A : Option Addr) (n c m : Nat) (kind : Int) (os : List OptV) (ls : List (Int × List Int)) (w : World) (hn : n ≤ 1000000) (hr : RdO w A n os) (hs : Reads w os ls) (hm : (withoutL kind ls).length = m) (hlim : ∀ l ∈ ls, l.2.length ≤ 1000000) :
    Calls Try.prog 18 #[.slice A n c, .int .u8 kind] w (OptsOwn m (withoutL kind ls) w) := by
  have Hl := Lib.hid (show ls.length = n by rw [← hs.len, hr.len])
  have Hr := Lib.hid hr
  have Hs := Lib.hid hs
  have Hm := Lib.hid hm
  have Hlim := Lib.hid hlim
  clear hr hs hm hlim
  go_enter Try.func18, Try.ntmps18
  go_wp2_with fail
  go_loopg [5, 10] n (fun gk s i wr => ∃ (j m2 : Nat) (A2 : Option Addr) (c2 : Nat) (os2 : List OptV), Hid (gk + j = n) ∧ j ≤ n ∧ m2 ≤ j ∧ i = .int .i64 (j : Int) ∧ s = .slice A2 m2 c2 ∧ Hid ((withoutL kind (ls.take j)).length = m2) ∧ Hid (OwnO wr w.heap.size A2 m2 c2 os2) ∧ Hid (OwnL wr w.heap.size os2 (withoutL kind (ls.take j))) ∧ Below w.heap.size w wr)
  case atStart => exact ⟨0, 0, none, 0, [], rfl, Nat.zero_le _, Nat.le_refl _, rfl, rfl, Lib.hid rfl, Lib.hid (OwnO.nil _ _), Lib.hid trivial, Below.refl _ _⟩
  case round =>
    obtain ⟨j, m2, A2, c2, os2, hgk, hj, hmj, rfl, rfl, hm2, hown, hownl, hb⟩ := hrel
    by_cases hjn : j < n
    · have hjn := hjn
      obtain ⟨b1, p1, hrun1, hb1, hk0, hd0⟩ := Hr.out.index (c := c) hjn
      have o1 := Hs.out.get j (by rw [Hr.out.len]; exact hjn)
      obtain ⟨v1, ev1⟩ : ∃ v, os.getD j .none = v := ⟨_, rfl⟩
      obtain ⟨l1, el1⟩ : ∃ v, ls.getD j (0, []) = v := ⟨_, rfl⟩
      rw [ev1] at hk0 hd0 o1
      rw [el1] at o1
      obtain ⟨kd1, A1, n1, c1⟩ := v1
      obtain ⟨t1, d1⟩ := l1
      obtain ⟨rfl, hkb, hnc, hcm, r1⟩ := o1
      simp only at hk0 hd0 hkb hnc hcm r1
      have hk1 := (hb.cell (p := ⟨b1, p1, none⟩) hb1).trans hk0
      have hd1 := (hb.cell (p := ⟨b1, p1 + 1, none⟩) hb1).trans hd0
      have El1 := Lib.hid el1
      have Hd1 := Lib.hid r1.len
      have Hr1 := Lib.hid r1
      clear ev1 el1 r1 hk0 hd0
      have hnlim : n1 ≤ 140737488355328 := by
        have hlt : j < ls.length := by rw [Hl.out]; exact hjn
        have h := Hlim.out (ls.getD j (0, [])) (by simp only [List.getD, List.getElem?_eq_getElem hlt, Option.getD_some]; exact List.getElem_mem _)
        rw [El1.out] at h
        have := Hd1.out
        simp only at h
        omega
      have Hsn := Lib.hid (take_snoc_ ls j (0, []) (by rw [Hl.out]; exact hjn))
      rw [El1.out] at Hsn
      obtain ⟨g1, eg1⟩ : ∃ g1, wr.heap.size = g1 := ⟨_, rfl⟩
      have hbk := heap_alloc_new wr (.cells #[.int .u8 kd1, .slice A1 n1 c1] 31)
      rw [eg1] at hbk
      have hbx : Below wr.heap.size wr (wr.alloc (.cells #[.int .u8 kd1, .slice A1 n1 c1] 31)) := (Below.refl _ _).alloc (Nat.le_refl _) _
      have Hbx := Lib.hid (hb.trans (hbx.mono hb.size))
      by_cases hkk : kd1 = kind
      · subst hkk
        have Hw := Lib.hid (show withoutL kd1 (ls.take (j + 1)) = withoutL kd1 (ls.take j) by rw [Hsn.out, withoutL_snoc, if_pos rfl])
        have Ho := Lib.hid (hown.out.on hbx)
        have Hol := Lib.hid (hownl.out.on hbx)
        clear hbx hbk
        go_wp2_with fail
        go_roundg (gk - 1)
        case measure => have := hgk.out; omega
        case rel => exact ⟨j + 1, m2, A2, c2, os2, by have := hgk.out; show gk - 1 + (j + 1) = _; omega, by omega, by omega, by go_num, rfl, Lib.hid (by rw [Hw.out]; exact hm2.out), Ho, Lib.hid (by rw [Hw.out]; exact Hol.out), Hbx.out⟩
      · have hk2 : (kd1 == kind) = false := by simpa using hkk
        have hk3 : (kd1 != kind) = true := by simpa using hkk
        have Hw := Lib.hid (show withoutL kind (ls.take (j + 1)) = withoutL kind (ls.take j) ++ [(kd1, d1)] by rw [Hsn.out, withoutL_snoc, if_neg hkk])
        have Ho := Lib.hid ((hown.out.on hbx).drew)
        have Hol := Lib.hid ((hownl.out.on hbx).on (Below.drew (Below.refl _ _)))
        obtain ⟨w2, ew2⟩ : ∃ w2, (wr.alloc (.cells #[.int .u8 kd1, .slice A1 n1 c1] 31)).drew = w2 := ⟨_, rfl⟩
        rw [ew2] at Ho Hol
        have Hrd := Lib.hid (show Rd w2 A1 n1 d1 by rw [← ew2]; exact Hr1.out.below (Below.drew Hbx.out))
        have Hb2 := Lib.hid (show Below w.heap.size w w2 by rw [← ew2]; exact Below.drew Hbx.out)
        have Hk2 := Lib.hid (show w2.heap[g1]? = some (.cells #[.int .u8 kd1, .slice A1 n1 c1] 31 (0, 0)) by rw [← ew2]; exact hbk)
        have Hsof := Lib.hid (show ∀ w' : World, w'.heap[g1]? = some (.cells #[.int .u8 kd1, .slice A1 n1 c1] 31 (0, 0)) → w'.cell? ⟨g1, 0, none⟩ = some (.int .u8 kd1) ∧ w'.cell? ⟨g1, 1, none⟩ = some (.slice A1 n1 c1) from fun w' h => ⟨blk_cell h 0, blk_cell h 1⟩)
        have Hna := Lib.hid (show ¬ Blk A2 g1 from fun h => by have := hown.out.blk h; omega)
        clear hbx hbk hkk
        go_wp2_with fail
        refine wp_region_held_drew (S := fun w' => w'.cell? ⟨g1, 0, none⟩ = some (.int .u8 kd1) ∧ w'.cell? ⟨g1, 1, none⟩ = some (.slice A1 n1 c1)) (by kernel_rfl) (by rw [ew2]; exact Hsof.out _ Hk2.out) (fun hHeld => ?_)
        refine wpAnyH_take (i := 0) (oi := { dst := some 18, op := Go.Op.move (Go.Operand.tmp 5), type := 23, pos := "opts.go:162", after := #[], guard := none }) (v := ?_) rfl (by kernel_rfl) (by kernel_rfl) (by kernel_rfl) (fun _ _ _ h => h) (Or.inl ⟨by rfl, ?_⟩) (by assumption) ?_
        rotate_left 1
        · intro w' hSw; (go_simp <;> (with_reducible rfl))
        (try simp only [Act.put, List.setIfInBounds_toArray, List.set_cons_zero, List.set_cons_succ])
        refine wpAnyH_take (i := 1) (oi := { dst := some 19, op := Go.Op.fieldAddr 31 (Go.Operand.tmp 7) 0, type := 0, pos := "opts.go:162", after := #[], guard := none }) (v := ?_) rfl (by kernel_rfl) (by kernel_rfl) (by kernel_rfl) (fun _ _ _ h => h) (Or.inl ⟨by rfl, ?_⟩) (by assumption) ?_
        rotate_left 1
        · intro w' hSw; (go_simp <;> (with_reducible rfl))
        (try simp only [Act.put, List.setIfInBounds_toArray, List.set_cons_zero, List.set_cons_succ])
        refine wpAnyH_take (i := 2) (oi := { dst := some 20, op := Go.Op.load 5 (Go.Operand.tmp 19), type := 5, pos := "opts.go:162", after := #[{ on := 1, ground := Go.Ground.data }], guard := none }) (v := ?_) rfl (by kernel_rfl) (by kernel_rfl) (by kernel_rfl) (fun _ _ _ h => h) (Or.inl ⟨by rfl, ?_⟩) (by assumption) ?_
        rotate_left 1
        · intro w' hSw; (go_simp <;> (with_reducible rfl))
        (try simp only [Act.put, List.setIfInBounds_toArray, List.set_cons_zero, List.set_cons_succ])
        refine wpAnyH_take (i := 3) (oi := { dst := some 21, op := Go.Op.fieldAddr 31 (Go.Operand.tmp 7) 1, type := 0, pos := "opts.go:162", after := #[], guard := none }) (v := ?_) rfl (by kernel_rfl) (by kernel_rfl) (by kernel_rfl) (fun _ _ _ h => h) (Or.inl ⟨by rfl, ?_⟩) (by assumption) ?_
        rotate_left 1
        · intro w' hSw; (go_simp <;> (with_reducible rfl))
        (try simp only [Act.put, List.setIfInBounds_toArray, List.set_cons_zero, List.set_cons_succ])
        refine wpAnyH_take (i := 4) (oi := { dst := some 22, op := Go.Op.load 22 (Go.Operand.tmp 21), type := 22, pos := "opts.go:162", after := #[{ on := 3, ground := Go.Ground.data }], guard := none }) (v := ?_) rfl (by kernel_rfl) (by kernel_rfl) (by kernel_rfl) (fun _ _ _ h => h) (Or.inl ⟨by rfl, ?_⟩) (by assumption) ?_
        rotate_left 1
        · intro w' hSw; (go_simp <;> (with_reducible rfl))
        (try simp only [Act.put, List.setIfInBounds_toArray, List.set_cons_zero, List.set_cons_succ])
        refine wpAnyH_ready (rs := [5]) (by kernel_rfl) (by simp) ?_
        refine AllReadyH.cons (o := { dst := some 23, op := Go.Op.call { callee := Go.Callee.value (Go.Operand.func 47), args := #[Go.Operand.tmp 22], argTypes := #[22] }, type := 22, pos := "opts.go:162", after := #[{ on := 4, ground := Go.Ground.data }], guard := none }) rfl (fun K hK => ?_) AllReadyH.nil
        go_simp
        (go_at_call 47; refine (clone_any A1 n1 c1 d1 _ hnlim Hrd.out).mono ?_; rintro e w4 ⟨A4, c4, rfl, hk4, hm4, hown4, hb4⟩; have HK4 := Lib.hid (blk_on Hk2.out hb4); have HB4 := Lib.hid (Hb2.out.trans (hb4.mono Hb2.out.size)); have Ho4 := Lib.hid (Ho.out.on hb4); have Hol4 := Lib.hid (Hol.out.on hb4); have Hown4 := Lib.hid (hown4.mono Hb2.out.size); clear hown4 hb4)
        refine hK.out _ _ ?_ (fun hHeld => ?_)
        · exact Hsof.out _ HK4.out
        clear hK K
        (try simp only [Act.put, List.setIfInBounds_toArray, List.set_cons_zero, List.set_cons_succ])
        refine wpAnyH_take (i := 6) (oi := { dst := some 24, op := Go.Op.build 31 #[(0, Go.Operand.tmp 20), (1, Go.Operand.tmp 23)], type := 31, pos := "opts.go:162", after := #[{ on := 2, ground := Go.Ground.data }, { on := 5, ground := Go.Ground.data }], guard := none }) (v := ?_) rfl (by kernel_rfl) (by kernel_rfl) (by kernel_rfl) (fun _ _ _ h => h) (Or.inl ⟨by rfl, ?_⟩) (by assumption) ?_
        rotate_left 1
        · intro w' hSw; (go_simp <;> (with_reducible rfl))
        (try simp only [Act.put, List.setIfInBounds_toArray, List.set_cons_zero, List.set_cons_succ])
        refine wpAnyH_ready (rs := [7]) (by kernel_rfl) (by simp) ?_
        refine AllReadyH.cons (o := { dst := some 25, op := Go.Op.buildSlice 23 1 #[(0, Go.Operand.tmp 24)], type := 23, pos := "opts.go:162", after := #[{ on := 6, ground := Go.Ground.data }], guard := none }) rfl (fun K hK => ?_) AllReadyH.nil
        go_simp
        skip
        refine hK.out _ _ ?_ (fun hHeld => ?_)
        · exact Hsof.out _ (blk_on HK4.out ((Below.refl _ _).alloc (Nat.le_refl _) _))
        clear hK K
        (try simp only [Act.put, List.setIfInBounds_toArray, List.set_cons_zero, List.set_cons_succ])
        refine wpAnyH_ready (rs := [8]) (by kernel_rfl) (by simp) ?_
        refine AllReadyH.cons (o := { dst := some 26, op := Go.Op.call { callee := Go.Callee.builtin Go.Builtin.append, args := #[Go.Operand.tmp 18, Go.Operand.tmp 25], argTypes := #[23, 23] }, type := 23, pos := "opts.go:162", after := #[{ on := 0, ground := Go.Ground.data }, { on := 7, ground := Go.Ground.data }, { on := 5, ground := Go.Ground.chain }], guard := none }) rfl (fun K hK => ?_) AllReadyH.nil
        (refine step_appO (by rfl) (.tmp 18) (.tmp 25) (by rfl) w.heap.size A2 (some ⟨w4.heap.size, 0, none⟩) m2 c2 1 1 _ [⟨kd1, A4, n1, c4⟩] (m2 + 1) _ rfl rfl (by rfl) (by rfl) (Ho4.out.on ((Below.refl _ _).alloc (Nat.le_refl _) _)) (RdO.one w4 w4.heap.size rfl _ _ kd1 A4 n1 c4) (by omega) (HB4.out.alloc HB4.out.size _).size ?_; intro A5 c5 w5 hown5 hgr5 hb5 hat5; have HK5 := Lib.hid ((grown_but hgr5).blk (blk_on HK4.out ((Below.refl _ _).alloc (Nat.le_refl _) _)) Hna.out))
        refine hK.out _ _ ?_ (fun hHeld => ?_)
        · exact Hsof.out _ HK5.out
        clear hK K
        (try simp only [Act.put, List.setIfInBounds_toArray, List.set_cons_zero, List.set_cons_succ])
        refine wpAnyH_take (i := 9) (oi := { dst := some 5, op := Go.Op.assign (Go.Operand.tmp 26), type := 23, pos := "opts.go:162", after := #[{ on := 8, ground := Go.Ground.data }, { on := 8, ground := Go.Ground.chain }, { on := 0, ground := Go.Ground.phase }, { on := 1, ground := Go.Ground.phase }, { on := 2, ground := Go.Ground.phase }, { on := 3, ground := Go.Ground.phase }, { on := 4, ground := Go.Ground.phase }, { on := 5, ground := Go.Ground.phase }, { on := 6, ground := Go.Ground.phase }, { on := 7, ground := Go.Ground.phase }, { on := 8, ground := Go.Ground.phase }], guard := none }) (v := ?_) rfl (by kernel_rfl) (by kernel_rfl) (by kernel_rfl) (fun _ _ _ h => h) (Or.inl ⟨by rfl, ?_⟩) (by assumption) ?_
        rotate_left 1
        · intro w' hSw; (go_simp <;> (with_reducible rfl))
        (try simp only [Act.put, List.setIfInBounds_toArray, List.set_cons_zero, List.set_cons_succ])
        refine wpAnyH_done (by kernel_rfl) ?_ _
        have hba : Below w4.heap.size w4 (w4.alloc (.cells #[.int .u8 kd1, .slice A4 n1 c4] 31)) := (Below.refl _ _).alloc (Nat.le_refl _) _
        have hl5 : OwnL (w4.alloc (.cells #[.int .u8 kd1, .slice A4 n1 c4] 31)) w.heap.size (os2 ++ [⟨kd1, A4, n1, c4⟩]) (withoutL kind (ls.take j) ++ [(kd1, d1)]) := (Hol4.out.on hba).snoc ⟨⟨rfl, hkb, Hrd.out.byte, Hown4.out.on hba⟩, trivial⟩
        have HL5 := Lib.hid (hl5.grown (Ho4.out.on hba) hgr5)
        have HB5 := Lib.hid ((HB4.out.trans (hba.mono HB4.out.size)).trans hb5)
        have HO5 := Lib.hid hown5
        have Hm5 := Lib.hid (show (withoutL kind (ls.take (j + 1))).length = m2 + 1 by rw [Hw.out, List.length_append, hm2.out]; rfl)
        rw [← Hw.out] at HL5
        clear hba hl5 hgr5 hb5 hat5 hown5
        go_wp2_with fail
        go_roundg (gk - 1)
        case measure => have := hgk.out; omega
        case rel => exact ⟨j + 1, m2 + 1, A5, c5, _, by have := hgk.out; show gk - 1 + (j + 1) = _; omega, by omega, by omega, by go_num, rfl, Hm5, HO5, HL5, HB5.out⟩
    · obtain rfl : n = j := by omega
      have hw : withoutL kind (ls.take n) = withoutL kind ls := by rw [List.take_of_length_le (by rw [Hl.out]; omega)]
      have hmm : m2 = m := by rw [← hm2.out, hw, Hm.out]
      subst hmm
      rw [hw] at hownl
      clear hw
      go_wp2_with fail
      go_ret
      exact ⟨A2, c2, os2, rfl, hown.out, hownl.out, hb⟩
end Go.Proofs.Ytikfklbgncdbnaa
