/-
  SeqTakes holds: what a receiver takes, and what is cut out of data, are the document's own answers; what is handed in stays. No condition.
-/
import Derived.Test.YtonbgkdobfefmaaSeqPiece
import Derived.Test.YtonbgkdobfefmaaSeqRef
namespace Go.Proofs.Ytonbgkdobfefmaa.seqTakes
open Go.ChangeShapes Go.WideShapes Go.ChangeAt Go.RowKit
set_option linter.unusedVariables false

/-- The posts of the two Cuts, the numbers told by name. -/
def CutI (x : Int) (bs : List Int) (m : Nat) (w : World) (e : Ending) (w' : World) : Prop :=
  ∃ A c, e = .returned (.tuple #[.int .u32 x, .slice A m c]) ∧ m ≤ c ∧ Own w' w.heap.size (.slice A m c) bs ∧ Rd w' A m bs ∧ Below w.heap.size w w'
theorem cut_own (a f lg : Int) (A : Option Addr) (n c : Nat) (l : List Int) (x : Int) (bs : List Int) (m : Nat) (w : World) (hl : U32 lg) (hn : n ≤ 2147483647) (hc : n ≤ c) (h : Rd w A n l)
    (hx : Hid (cutFrom a f lg l = x)) (hb : Hid (cutBytes a f lg l = bs)) (hm : Hid (bs.length = m)) :
    Calls Try.prog 18 #[.int .u32 a, .slice A n c, .int .u32 f, .int .u32 lg] w (CutI x bs m w) := by
  have := hx.out; subst this
  have := hb.out; subst this
  have := hm.out; subst this
  refine (cut_any a f lg A n c l w hl hn hc h).mono fun e w' ⟨v, he, ho, hb⟩ => ?_
  obtain ⟨A', c', rfl, hc', hr⟩ := ho.rd (cutBytes_byte h.byte)
  exact ⟨A', c', he, hc', ho, hr, hb⟩
def CutR (x : Int) (bs : List Int) (m : Nat) (w : World) (e : Ending) (w' : World) : Prop :=
  ∃ A c, e = .returned (.tuple #[.int .u32 x, .slice A m c]) ∧ m ≤ c ∧ Rd w' A m bs ∧ Below w.heap.size w w'
theorem rcut_named (a f lg : Int) (A : Option Addr) (n c : Nat) (l : List Int) (x : Int) (bs : List Int) (m : Nat) (w : World) (ha : U32 a) (hf : U32 f) (hl : U32 lg) (hn : n ≤ 1000000) (hc : n ≤ c) (h : Rd w A n l)
    (hx : Hid (cutFrom a f lg l = x)) (hb : Hid (cutBytes a f lg l = bs)) (hm : Hid (bs.length = m)) :
    Calls Try.prog 19 #[.int .u32 a, .slice A n c, .int .u32 f, .int .u32 lg] w (CutR x bs m w) := by
  have := hx.out; subst this
  have := hb.out; subst this
  have := hm.out; subst this
  exact rcut_rd a f lg A n c l w ha hf hl hn hc h

/-- What stays: the boxed argument, the copy, and what came in. -/
structure Two (w : World) (a f lg : Int) (A : Option Addr) (k c : Nat) (A5 : Option Addr) (l : List Int) (w' : World) : Prop where
  box : Boxed w a f lg (.slice A k c) w'
  own : Rd w' A5 k l
  dat : Rd w' A k l
theorem Two.onB {w : World} {a f lg : Int} {A : Option Addr} {k c : Nat} {A5 : Option Addr} {l : List Int} {w' w'' : World} (h : Two w a f lg A k c A5 l w') (hb : Below w'.heap.size w' w'') : Two w a f lg A k c A5 l w'' :=
  ⟨h.box.on hb, h.own.below hb, h.dat.below hb⟩
theorem Two.drew {w : World} {a f lg : Int} {A : Option Addr} {k c : Nat} {A5 : Option Addr} {l : List Int} {w' : World} (h : Two w a f lg A k c A5 l w') (n : Nat) : Two w a f lg A k c A5 l { w' with drawn := n } :=
  ⟨h.box.drew n, h.own.drew n, h.dat.drew n⟩

theorem equal_true (A A' : Option Addr) (n c c' : Nat) (l : List Int) (w : World) (h : Rd w A n l) (h' : Rd w A' n l) :
    Calls Try.prog 20 #[.slice A n c, .slice A' n c'] w fun e w' => e = .returned (.bool true) ∧ w = w' :=
  (equal_any A A' n n c c' l l w h h').mono fun e w' ⟨he, hw⟩ => ⟨by rw [he]; simp, hw⟩

/-- A row of bytes in which one is written. -/
theorem row_set {w : World} {g j : Nat} {zs : List Int} (y : Int) (h : w.heap[g]? = some (.cells (zs.map (Value.int .u8)).toArray 5 (0, 0))) :
    (w.setCell ⟨g, j, none⟩ (.int .u8 y)).heap[g]? = some (.cells ((zs.set j y).map (Value.int .u8)).toArray 5 (0, 0)) := by
  rw [Joins.block_setCell h (.int .u8 y)]
  simp [List.map_set]
theorem row_cell {w : World} {g j : Nat} {zs : List Int} (h : w.heap[g]? = some (.cells (zs.map (Value.int .u8)).toArray 5 (0, 0))) (hj : j < zs.length) : w.cell? ⟨g, j, none⟩ = some (.int .u8 (zs.getD j 0)) := by
  rw [Joins.cell_of_block h]
  simp [List.getD, List.getElem?_eq_getElem hj]
theorem row_free {w : World} {g : Nat} {zs : List Int} (h : w.heap[g]? = some (.cells (zs.map (Value.int .u8)).toArray 5 (0, 0))) (j : Nat) : w.frozen? ⟨g, j, none⟩ = false := Joins.unfrozen_of_block h j

set_option maxRecDepth 100000 in
set_option maxHeartbeats 4000000 in
theorem walk (w : World) (v : Value) (hp : PieceAt w v) (n : Int) (wn : (Lit.int .i64 n).wf = true) :
    Calls Try.prog 4 #[v, .int .i64 n] w fun e w' => e = .returned (.bool true) ∧ Below w.heap.size w w' := by
  obtain ⟨a, f, lg, A, n0, c, l, rfl, ha, hf, hl, hnc, hc, hr⟩ := hp
  obtain ⟨k, ek, hkn, hk⟩ := min_nat 3000 n0 (by omega)
  have hkc : (k : Int) ≤ (c : Int) := by omega
  have hr0 : Rd w A k (l.take k) := hr.take hkn
  obtain ⟨l1, el⟩ : ∃ l1, l1 = l.take k := ⟨_, rfl⟩
  rw [← el] at hr0
  clear el hr
  have hn := bounds_i64 wn
  unfold maxLen at hc
  clear wn
  have hbox : Boxed w a f lg (.slice A k c) ((w.alloc (.cells #[.int .u32 a, .int .u32 f, .int .u32 lg, .slice A k c] 32)).alloc (.cells #[] 5)) :=
    (Boxed.new w a f lg (.slice A k c) 0).on ((Below.refl _ _).alloc (Nat.le_refl _) _)
  have hown0 : OwnB ((w.alloc (.cells #[.int .u32 a, .int .u32 f, .int .u32 lg, .slice A k c] 32)).alloc (.cells #[] 5)) (w.heap.size + 1) (some ⟨w.heap.size + 1, 0, none⟩) 0 0 [] :=
    OwnB.made (cur := #[]) (by have := heap_alloc_new (w.alloc (.cells #[.int .u32 a, .int .u32 f, .int .u32 lg, .slice A k c] 32)) (.cells #[] 5); simpa using this) (Nat.le_refl _) (by simp [maxLen]) rfl
  have hrd0 := hr0.below hbox.below
  have Hbox := Lib.hid hbox
  have Hown0 := Lib.hid hown0
  have Hrd0 := Lib.hid hrd0
  clear hbox hown0 hrd0
  obtain ⟨x, ex⟩ : ∃ x, cutFrom a f lg l1 = x := ⟨_, rfl⟩
  obtain ⟨bs, eb⟩ : ∃ bs, cutBytes a f lg l1 = bs := ⟨_, rfl⟩
  obtain ⟨m, em⟩ : ∃ m, bs.length = m := ⟨_, rfl⟩
  have hmk : m ≤ 3000 := by
    have h1 := hr0.len
    rw [← em, ← eb]
    unfold cutBytes
    rw [List.length_take, List.length_drop]
    omega
  have M1 := Lib.hid em
  clear em
  have X1 := Lib.hid ex
  have B1 := Lib.hid eb
  clear ex eb
  have Ha := Lib.hid ha
  have Hf := Lib.hid hf
  have Hl := Lib.hid hl
  clear ha hf hl
  go_enter Try.func4, Try.ntmps4
  go_wp2_with (refine wpList_app rfl (.tmp 20) (.tmp 22) rfl (w.heap.size + 1) (some ⟨w.heap.size + 1, 0, none⟩) A 0 0 k c [] l1 rfl rfl Hown0.out Hrd0.out (by omega) (by simp) ?_; intro A5 c5 w5 hown5 _ hb5 _; have hbox := Boxed.onB Hbox.out hb5 (Nat.lt_succ_self _); obtain ⟨c0, c1, c2, c3, _, _⟩ := id hbox)
  have ho : Rd w5 A5 k l1 := by simpa using hown5.rd (by simpa using hr0.byte)
  have hc5 : k ≤ c5 := by simpa using hown5.cap
  have hd : Rd w5 A k l1 := hr0.below hbox.below
  clear hown5 hb5
  refine (cut_own a f lg A5 k c5 l1 x bs m w5 Hl.out (by omega) hc5 ho X1 B1 M1).mono ?_
  rintro e w6 ⟨A6, c6, rfl, hc6, hown6, hr6, hb6⟩
  have htwo : Two w a f lg A k c A5 l1 w5 := ⟨hbox, ho, hd⟩
  have htwo6 := htwo.onB hb6
  have hd6 := htwo6.dat
  clear c0 c1 c2 c3 hbox ho hd
  obtain ⟨c0, c1, c2, c3, _, _⟩ := id htwo6.box
  go_wp2_with fail
  refine (rcut_named a f lg A k c l1 x bs m w6 Ha.out Hf.out Hl.out (by omega) (by omega) hd6 X1 B1 M1).mono ?_
  rintro e w7 ⟨A7, c7, rfl, hc7, hr7, hb7⟩
  have hr6 := hr6.below hb7
  have hb57 : Below w5.heap.size w5 w7 := below_trans hb6 hb7
  clear c0 c1 c2 c3 htwo6 hd6
  go_wp2_with (go_at_call 20; refine (equal_true _ _ _ _ _ _ _ hr6 hr7).mono ?_; rintro e w' ⟨rfl, rfl⟩)
  clear hr6 hr7
  rcases hown6 with ⟨e1, hnil⟩ | ⟨g, e1, hgB, hrow⟩
  · injection e1 with e1 e2 e3
    subst e1; subst e2; subst e3
    go_loopw [57] (fun i wr => i = .int .i64 0 ∧ wr = w7) (fun _ _ => 0)
    case atStart => exact ⟨rfl, rfl⟩
    case round =>
      obtain ⟨rfl, rfl⟩ := hrel
      go_wp2_with fail
      have htwo9 := htwo.onB hb57
      have hne := class_const (C := Two w a f lg A k c A5 l1) ⟨_, htwo9⟩
      refine region_class (C := Two w a f lg A k c A5 l1) (by kernel_rfl) (by kernel_rfl) (htwo9.drew _) ?_
      repeat (first | go_big_quiet_skip | (go_big_quiet_want; first | (refine quiet_ld 22 _ _ _ rfl rfl (ld_u32 _ _) (fun w h => Boxed.c0 (Two.box h)) ?_; simp only [Act.put, List.setIfInBounds_toArray, List.set_cons_zero, List.set_cons_succ]; go_big_quiet_on) | (refine quiet_ld 22 _ _ _ rfl rfl (ld_u32 _ _) (fun w h => Boxed.c1 (Two.box h)) ?_; simp only [Act.put, List.setIfInBounds_toArray, List.set_cons_zero, List.set_cons_succ]; go_big_quiet_on) | (refine quiet_ld 22 _ _ _ rfl rfl (ld_u32 _ _) (fun w h => Boxed.c2 (Two.box h)) ?_; simp only [Act.put, List.setIfInBounds_toArray, List.set_cons_zero, List.set_cons_succ]; go_big_quiet_on) | (refine quiet_ld 30 _ _ _ rfl rfl (ld_slice _ _ _ _) (fun w h => Boxed.c3 (Two.box h)) ?_; simp only [Act.put, List.setIfInBounds_toArray, List.set_cons_zero, List.set_cons_succ]; go_big_quiet_on) | (go_big_quiet_op; first | go_big_quiet_on | go_big_quiet_call ((intro hS; first | (go_at_call 10; refine (awake_any _).mono ?_; rintro e w5 ⟨rfl, hb5⟩; exact ⟨rfl, hS.onB hb5⟩) | (go_at_call 20; refine (equal_true _ _ _ _ _ _ _ hS.own hS.dat).mono ?_; rintro e w5 ⟨rfl, rfl⟩; exact ⟨rfl, hS⟩) | (go_at_call 21; refine (accept_any _ _ _ _ _ (by omega)).mono ?_; rintro e w5 ⟨rfl, hb5⟩; exact ⟨rfl, hS.onB hb5⟩) | (go_at_call 22; refine (raccept_any _ _ _ _ _ (by omega) Ha.out Hf.out Hl.out).mono ?_; rintro e w5 ⟨rfl, rfl⟩; exact ⟨rfl, hS⟩))))))
      refine wpQuiet_nil ?_
      clear hne
      intro w8 hw8
      have hB := hw8.box.below
      clear hw8 htwo9
      go_wp2_with fail
      go_ret
      exact ⟨rfl, hB⟩
  · injection e1 with e1 e2 e3
    subst e1; subst e3
    have hrow7 : w7.heap[g]? = some (.cells (bs.map (Value.int .u8)).toArray 5 (0, 0)) := by
      rw [hb7.block g (by rcases Nat.lt_or_ge g w6.heap.size with h | h; exact h; rw [Array.getElem?_eq_none h] at hrow; cases hrow)]
      exact hrow
    have Hrow7 := Lib.hid hrow7
    have HgB := Lib.hid hgB
    clear hrow hrow7 hgB
    have Hm : Hid (bs.length = m) := M1
    go_loopw [57] (fun i wr => ∃ (j : Nat) (zs : List Int), j ≤ m ∧ i = .int .i64 j ∧ Hid (zs.length = m) ∧ Hid (wr.heap[g]? = some (.cells (zs.map (Value.int .u8)).toArray 5 (0, 0))) ∧ Below w5.heap.size w5 wr) (fun i _ => m - (intOf i).toNat)
    case atStart => exact ⟨0, bs, Nat.zero_le _, rfl, Hm, Hrow7, hb57⟩
    case round =>
      obtain ⟨j, zs, hj, rfl, Hz, Hrow, hbl⟩ := hrel
      by_cases hjm : j < m
      · have hcell : wr.cell? ⟨g, j, none⟩ = some (.int .u8 (zs.getD j 0)) := row_cell Hrow.out (by rw [Hz.out]; exact hjm)
        have hfree : wr.frozen? ⟨g, j, none⟩ = false := row_free Hrow.out j
        have hji : (j : Int) < (m : Int) := by omega
        have hset := fun y : Int => Lib.hid (row_set (j := j) y Hrow.out)
        have hbl2 := fun y : Int => hbl.setCell (p := ⟨g, j, none⟩) HgB.out (.int .u8 y)
        go_wp2_with fail
        go_roundw
        case rel => exact ⟨j + 1, _, by omega, by go_num, by show _ = _; rw [List.length_set]; exact Hz, hset _, hbl2 _⟩
        case measure => simp [intOf]; omega
      · have hji : (m : Int) ≤ (j : Int) := by omega
        have htwo9 := htwo.onB hbl
        clear Hrow Hz
        go_wp2_with fail
        have hne := class_const (C := Two w a f lg A k c A5 l1) ⟨_, htwo9⟩
        refine region_class (C := Two w a f lg A k c A5 l1) (by kernel_rfl) (by kernel_rfl) (htwo9.drew _) ?_
        repeat (first | go_big_quiet_skip | (go_big_quiet_want; first | (refine quiet_ld 22 _ _ _ rfl rfl (ld_u32 _ _) (fun w h => Boxed.c0 (Two.box h)) ?_; simp only [Act.put, List.setIfInBounds_toArray, List.set_cons_zero, List.set_cons_succ]; go_big_quiet_on) | (refine quiet_ld 22 _ _ _ rfl rfl (ld_u32 _ _) (fun w h => Boxed.c1 (Two.box h)) ?_; simp only [Act.put, List.setIfInBounds_toArray, List.set_cons_zero, List.set_cons_succ]; go_big_quiet_on) | (refine quiet_ld 22 _ _ _ rfl rfl (ld_u32 _ _) (fun w h => Boxed.c2 (Two.box h)) ?_; simp only [Act.put, List.setIfInBounds_toArray, List.set_cons_zero, List.set_cons_succ]; go_big_quiet_on) | (refine quiet_ld 30 _ _ _ rfl rfl (ld_slice _ _ _ _) (fun w h => Boxed.c3 (Two.box h)) ?_; simp only [Act.put, List.setIfInBounds_toArray, List.set_cons_zero, List.set_cons_succ]; go_big_quiet_on) | (go_big_quiet_op; first | go_big_quiet_on | go_big_quiet_call ((intro hS; first | (go_at_call 10; refine (awake_any _).mono ?_; rintro e w5 ⟨rfl, hb5⟩; exact ⟨rfl, hS.onB hb5⟩) | (go_at_call 20; refine (equal_true _ _ _ _ _ _ _ hS.own hS.dat).mono ?_; rintro e w5 ⟨rfl, rfl⟩; exact ⟨rfl, hS⟩) | (go_at_call 21; refine (accept_any _ _ _ _ _ (by omega)).mono ?_; rintro e w5 ⟨rfl, hb5⟩; exact ⟨rfl, hS.onB hb5⟩) | (go_at_call 22; refine (raccept_any _ _ _ _ _ (by omega) Ha.out Hf.out Hl.out).mono ?_; rintro e w5 ⟨rfl, rfl⟩; exact ⟨rfl, hS⟩))))))
        refine wpQuiet_nil ?_
        clear hne
        intro w8 hw8
        have hB := hw8.box.below
        clear hw8 htwo9
        go_wp2_with fail
        go_ret
        exact ⟨rfl, hB⟩

theorem own : ownKnob Try.prog.godebug = none := by kernel_rfl
theorem laidOut : laidOutB Try.prog = true := by kernel_rfl

set_option maxRecDepth 100000 in
theorem lifted (os : Os) (started : os.Started) (H : Type) (enc : TypeId × Value → H) :
    ReturnsInHanded {} Try.checked os 4 .any (Rows.seqTakesSpec.pre6 enc Try.prog Try.f4 Rows.seqTakesRow.domain false) (Rows.seqTakesSpec.post enc Try.prog Try.f4 false true false false) := by
  refine returnsInHanded_of_change (C := Try.checked) own started (by kernel_rfl) Try.func4
    (ChangeSpec.witness6 (enc := enc) (C := Try.checked) false ⟨#[], #[(.agg #[.int .u32 0, .int .u32 0, .int .u32 0, .slice none 0 0]), .int .i64 0], []⟩ 8 (by kernel_rfl) (by kernel_rfl) (by kernel_rfl) (by kernel_rfl)) ?_
  intro W base args ds gs before hval0 hW hcnd _
  have hval : ∀ (j : Nat) t v, Try.f4.params[j]? = some t → args[j]? = some v → Value.okWide Try.prog W .any base t v := hval0
  have hW' := hW
  obtain ⟨p, q, hA0, hV, rfl, hfz, hnd⟩ := hW
  have hA : DataW.TrodAll enc Try.prog W 0 (fun _ => true) true Try.f4.params.toList args.toList ds p := hA0
  rw [Try.params4] at hA hval
  obtain ⟨v0, vs0, d0, ds0, p0, q0, hargs, rfl, rfl, h0, r0⟩ := trodAll_cons hA
  obtain ⟨v1, vs1, d1, ds1, p1, q1, rfl, rfl, rfl, h1, r1⟩ := trodAll_cons r0
  obtain ⟨rfl, rfl, rfl⟩ := trodAll_nil r1
  obtain rfl : args = #[v0, v1] := by cases args; simp_all
  obtain ⟨rfl, rfl⟩ := trodVars_none hV
  have k0 := piece_open (hval 0 32 v0 rfl rfl) h0
  have lt0 : ∀ x ∈ p0, x.block < W.heap.size := by obtain ⟨m, hm⟩ := h0; exact DataW.trod_lt m _ _ _ hm
  obtain ⟨a1, rfl, rfl, rfl, w1⟩ := open_int Try.underlying3 (hval 1 3 v1 rfl rfl) h1
  clear hA0 hval0
  refine (walk W v0 k0 a1 w1).mono fun e W' ⟨he, bel⟩ => ?_
  subst he
  exact ⟨_, rfl, _, _, _, [], _, [], hW', trodAll_mk1 (shut_bool Try.underlying4 _), (trodAll_cons_mk (Below.trod laidOut (by kernel_rfl) (of_decide_eq_true (by kernel_rfl)) h0 bel lt0) (trodAll_cons_mk (shut_int Try.underlying3 w1) trodAll_mk0)), rfl, bel.frame _, fun h => by cases h⟩

theorem over : Rows.seqTakesRow.holds Try.pinned (OpenSpec.ofChange Rows.seqTakesSpec) :=
  OpenClaim.holds_of_wide 4 Try.f4 rfl rfl rfl rfl rfl rfl rfl ⟨rfl, rfl, rfl, rfl, rfl⟩ rfl rfl rfl rfl rfl (by kernel_rfl) Try.func4 (by kernel_rfl)
    (of_decide_eq_true (by kernel_rfl)) (by unfold Func.isWrapper; first | (rw [if_pos (by decide +kernel)]; kernel_rfl) | (rw [if_neg (by decide +kernel)]; exact ⟨rfl, rfl⟩))
    (fun os started H enc _ => lifted os started H enc)

/-- The statement. -/
theorem proved : Rows.SeqTakesSaid := over
#print axioms proved
end Go.Proofs.Ytonbgkdobfefmaa.seqTakes
