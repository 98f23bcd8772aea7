/-
  SumCalls holds where what comes in is of bulk at most 1048576 ('..UptoSaid'): Sum, Field and Right of the first 60 parts are the document's own, of all bytes one behind the other.
  Condition: the second form's own (the whole statement is false by size: 60 parts of 2^47 bytes can't be joined).
-/
import Derived.Test.YtghpndcninbniaaSumPseudo
import Derived.Deep.Matrix
import Derived.JoinedCond
namespace Go.Proofs.Ytghpndcninbniaa.sumCalls
open Go.ChangeShapes Go.WideShapes Go.ChangeAt Go.RowKit
set_option linter.unusedVariables false

theorem one_le {H : Type} (d : DataW H) : 1 ≤ Rows.uptoBulk d := by
  cases d with
  | lit l => cases l <;> simp [Rows.uptoBulk]
  | _ => simp [Rows.uptoBulk]
theorem len_le {H : Type} (l : List (DataW H)) : l.length ≤ Rows.uptoBulkAll l := by
  induction l with
  | nil => simp
  | cons x r ih => have := one_le x; simp only [Rows.uptoBulkAll, List.length_cons]; omega
theorem all_sum {H : Type} (n : Nat) (D : Nat → DataW H) (L : Nat → Nat) (h : ∀ i, i < n → L i ≤ Rows.uptoBulk (D i)) : ((List.range n).map L).sum ≤ Rows.uptoBulkAll ((List.range n).map D) := by
  have key : ∀ l : List Nat, (∀ i ∈ l, i < n) → (l.map L).sum ≤ Rows.uptoBulkAll (l.map D) := by
    intro l
    induction l with
    | nil => intro _; simp
    | cons x r ih =>
      intro hx
      have h1 := h x (hx x (by simp))
      have h2 := ih (fun i hi => hx i (by simp [hi]))
      simp only [List.map_cons, List.sum_cons, Rows.uptoBulkAll]
      omega
  exact key _ (fun i hi => List.mem_range.1 hi)

/-- The parts that came in. -/
def PartsAt (w : World) (v : Value) : Prop := ∃ A n c ls, v = .slice A n c ∧ n ≤ c ∧ c ≤ maxLen ∧ RdL w A n ls ∧ ls.flatten.length + n ≤ 1048576

theorem parts_open {H : Type} {enc : TypeId × Value → H} {W : World} {base : Nat} {v : Value} {d : DataW H} {p : List MemPlace}
    (hv : Value.okWide Try.prog W .any base 22 v) (h : DataW.Trod enc Try.prog W 0 (fun _ => true) true 22 v d p) (hk : Rows.uptoBulk d ≤ 1048576) : PartsAt W v := by
  obtain ⟨a0, len0, cap0, rfl⟩ := okWide_slice Try.underlying22 hv
  obtain ⟨m, hm⟩ := h
  rcases Go.Deep.open_int_rows Try.underlying22 Try.underlying23 Try.underlying5 (by kernel_rfl) (by kernel_rfl) hm with ⟨hcs, _⟩ | ⟨a, len, cap, A, L, C, Z, hcs, _, hl, hm', hd, hr⟩
  · simp [Value.cells] at hcs
    obtain ⟨rfl, rfl, rfl⟩ := hcs
    exact ⟨none, 0, 0, [], rfl, Nat.le_refl _, by simp [maxLen], ⟨rfl, fun h => absurd h (by omega)⟩, by simp⟩
  · simp [Value.cells] at hcs
    obtain ⟨rfl, rfl, rfl⟩ := hcs
    have hrow : ∀ r, r < cap0 → Rd W (A r) (L r) ((Z r).take (L r)) := by
      intro r hr0
      obtain ⟨h1, h2, h3, h4, h5, h6, h7⟩ := hr r hr0
      refine ⟨by rw [List.length_take]; omega, fun z hz => ?_, fun h0 => ?_⟩
      · have := bounds_u8 (h5 z (List.mem_of_mem_take hz))
        omega
      · cases hA : A r with
        | none => have := h6 hA; omega
        | some a' =>
          obtain ⟨_, hc⟩ := h7 a' hA
          obtain ⟨b, o, rfl, hc'⟩ := ints_at (zs := Z r) (fun i hi => hc i (by omega)) (by omega)
          refine ⟨b, o, rfl, World.block_lt_of_cell? W _ (hc' 0 (by omega)), fun i hi => ?_⟩
          rw [hc' i (by omega)]
          simp [List.getD, List.getElem?_take_of_lt hi]
    have hd1 := (Prod.mk.inj hd).1
    have hbulk : ((List.range len0).map L).sum + len0 ≤ 1048576 := by
      have h2 := all_sum len0 (fun r => Go.Deep.intRow (H := H) .u8 (A r) (L r) (Z r)) (fun r => L r + 1) (fun i hi => by
        obtain ⟨h1, h2, h3, h4, h5, h6, h7⟩ := hr i (by omega)
        cases hA : A i with
        | none => have := h6 hA; simp [Go.Deep.intRow, Rows.uptoBulk]; omega
        | some a' =>
          simp only [Go.Deep.intRow, Rows.uptoBulk]
          have := len_le (Go.ChangeShapes.lits (H := H) .u8 ((Z i).take (L i)))
          simp [Go.ChangeShapes.lits, List.length_take] at this ⊢
          omega)
      subst hd1
      simp only [Rows.uptoBulk] at hk
      have h3 : ((List.range len0).map fun r => L r + 1).sum = ((List.range len0).map L).sum + len0 := by
        have : ∀ l : List Nat, (l.map fun r => L r + 1).sum = (l.map L).sum + l.length := by
          intro l
          induction l with
          | nil => rfl
          | cons x r ih => simp only [List.map_cons, List.sum_cons, List.length_cons, ih]; omega
        rw [this, List.length_range]
      omega
    refine ⟨some a, _, _, (List.range len0).map fun r => (Z r).take (L r), rfl, hl, hm', ⟨by simp, fun h0 => ?_⟩, ?_⟩
    · have hc0 := (hr 0 (by omega)).1
      obtain ⟨b, o, spot⟩ := a
      have hspot : spot = none := by simpa [Addr.add] using World.cell?_spot hc0
      subst hspot
      refine ⟨b, o, rfl, ?_, fun i hi => ?_⟩
      · rw [Go.WideShapes.add_plain] at hc0
        exact World.block_lt_of_cell? W _ hc0
      · obtain ⟨h1, h2, h3, h4, h5, h6, h7⟩ := hr i (by omega)
        have e : ((List.range len0).map fun r => (Z r).take (L r)).getD i [] = (Z i).take (L i) := by simp [List.getD, hi]
        have e2 : ((Z i).take (L i)).length = L i := by rw [List.length_take]; omega
        rw [e, e2]
        exact ⟨A i, C i, by rw [← Go.WideShapes.add_plain]; exact h1, h2, h3, hrow i (by omega)⟩
    · have : ((List.range len0).map fun r => (Z r).take (L r)).flatten.length = ((List.range len0).map L).sum := by
        rw [List.length_flatten, List.map_map]
        congr 1
        refine List.map_congr_left fun r hr0 => ?_
        obtain ⟨h1, h2, h3, h4, h5, h6, h7⟩ := hr r (by have := List.mem_range.1 hr0; omega)
        simp [List.length_take]; omega
      omega

theorem flat_len (ls : List (List Int)) (k : Nat) : (ls.take k).flatten.length ≤ ls.flatten.length := by
  have h : ls.flatten.length = (ls.take k).flatten.length + (ls.drop k).flatten.length := by
    rw [← List.length_append, ← List.flatten_append, List.take_append_drop]
  omega

/-- All parts, one behind the other. -/
theorem join_any (A : Option Addr) (n c : Nat) (ls : List (List Int)) (w : World) (hn : n ≤ 1048576) (hf : ls.flatten.length ≤ 1048576) (h : RdL w A n ls) :
    Calls Try.prog 10 #[.slice A n c] w (BytesIs ls.flatten.length ls.flatten w) := by
  have hlen := Lib.hid h.len
  have hall : ∀ x ∈ ls.flatten, 0 ≤ x ∧ x < 256 := by
    intro x hx
    obtain ⟨l, hl, hxl⟩ := List.mem_flatten.1 hx
    obtain ⟨i, hi, rfl⟩ := List.mem_iff_getElem.1 hl
    have hi' : i < n := by have := h.len; omega
    obtain ⟨p, Ai, ci, _, _, _, _, _, hr⟩ := h.index (c := c) hi'
    refine hr.byte x ?_
    simpa [List.getD, List.getElem?_eq_getElem hi] using hxl
  go_enter Try.func10, Try.ntmps10
  go_wp2_with fail
  go_loopg [3, 4] n (fun gk b i wr => ∃ k m A' c', Hid (gk + k = n) ∧ k ≤ n ∧ b = .slice A' m c' ∧ i = .int .i64 (k : Int) ∧ OwnB wr w.heap.size A' m c' (ls.take k).flatten ∧ Below w.heap.size w wr)
  case atStart => exact ⟨0, 0, none, 0, rfl, Nat.zero_le _, rfl, rfl, OwnB.nil _ _, Below.refl _ _⟩
  case round =>
    obtain ⟨k, m, A', c', hgk, hk, rfl, rfl, hown, hbel⟩ := hrel
    by_cases hlt : k < n
    · obtain ⟨p, Ai, ci, hrun, hpb, hcell0, hci, hcm, hrd0⟩ := h.index (c := c) hlt
      have hcell := (hbel.cell hpb).trans hcell0
      have hrd := hrd0.below hbel
      have hm := hown.len
      have hf1 := flat_len ls (k + 1)
      have e := flat_take ls k (by have := hlen.out; omega)
      rw [e, List.length_append] at hf1
      have He := Lib.hid e
      obtain ⟨lk, elk⟩ : ∃ lk, ls.getD k [] = lk := ⟨_, rfl⟩
      rw [elk] at hcell hci hrd hf1 He
      have Hrd := Lib.hid hrd
      have Hown := Lib.hid hown
      have hsz : m + lk.length ≤ 140737488355328 := by omega
      have hbs := hbel.size
      clear elk e hm hrd hown hf1 hrd0 hcell0
      go_wp2_with (refine wpList_app rfl (.tmp 11) (.tmp 15) rfl w.heap.size A' Ai m c' lk.length ci _ lk rfl rfl Hown.out Hrd.out hsz hbs ?_; intro A2 c2 w2 hown2 _ hbel2 _)
      go_roundg (gk - 1)
      case measure => have := hgk.out; omega
      case rel => exact ⟨k + 1, m + lk.length, A2, c2, by have := hgk.out; show gk - 1 + (k + 1) = _; omega, by omega, rfl, by go_num, by rw [He.out]; exact hown2, hbel.trans hbel2⟩
    · have hd : (ls.take k).flatten = ls.flatten := by rw [List.take_of_length_le (by have := hlen.out; omega)]
      rw [hd] at hown
      have hm := Lib.hid hown.len
      have Hown := Lib.hid hown
      clear hd hown
      go_wp2_with fail
      go_ret
      exact ⟨A', c', by show Ending.returned (Value.slice A' m c') = _; rw [hm.out], by rw [hm.out]; exact Hown.out.cap, by rw [hm.out]; exact Hown.out.rd hall, hbel⟩

set_option maxHeartbeats 2000000 in
theorem walk (w : World) (v : Value) (hv : PartsAt w v) :
    Calls Try.prog 3 #[v] w fun e w' => e = .returned (.bool true) ∧ Below w.heap.size w w' := by
  obtain ⟨A, n, c, ls0, rfl, hnc, hcm, hr0, hbulk⟩ := hv
  obtain ⟨k, ek, hkn, hk60⟩ := min_nat 60 n (by omega)
  have hr := hr0.take hkn
  have hfl := flat_len ls0 k
  obtain ⟨ls, els⟩ : ∃ ls, ls0.take k = ls := ⟨_, rfl⟩
  rw [els] at hr hfl
  have hkc : (k : Int) ≤ (c : Int) := by omega
  have hkn' : (k : Int) ≤ (n : Int) := by omega
  have hflat : ls.flatten.length ≤ 1048576 := by omega
  have hjoin := join_any A k c ls w (by omega) hflat hr
  have Hjoin := Lib.hid hjoin
  have Hr := Lib.hid hr
  unfold maxLen at hcm
  have hk : k ≤ 9223372036854775807 := by omega
  obtain ⟨m, em⟩ : ∃ m, ls.flatten.length = m := ⟨_, rfl⟩
  obtain ⟨x, ex⟩ : ∃ x, sumL ls.flatten = x := ⟨_, rfl⟩
  have Hx := Lib.hid ex
  have hB : Below w.heap.size w w := Below.refl _ _
  clear hjoin hr els hr0 hbulk hfl ex
  rw [em] at hflat Hjoin
  clear em
  go_enter Try.func3, Try.ntmps3
  go_wp2_with fail
  clear ek
  refine Hjoin.out.mono ?_
  rintro e w1 ⟨A1, c1, rfl, hc1, hr1, hb⟩
  have hr := Hr.out.below hb
  have hB := below_trans hB hb
  clear hb Hr Hjoin
  go_wp2_with fail
  refine (sum_told A k c ls w1 x hk hr Hx.out).mono ?_
  rintro e w2 ⟨rfl, hb⟩
  have hr := hr.below hb
  have hr1 := hr1.below hb
  have hB := below_trans hB hb
  clear hb
  go_wp2_with fail
  refine (rsum_any A1 m c1 _ w2 (by omega) hr1).mono ?_
  rintro e w' ⟨rfl, rfl⟩
  rw [Hx.out]
  go_wp2_with fail
  refine (field_told A k c ls w2 (65535 - x) hk hr (by rw [Hx.out])).mono ?_
  rintro e w3 ⟨rfl, hb⟩
  have hr := hr.below hb
  have hr1 := hr1.below hb
  have hB := below_trans hB hb
  clear hb
  go_wp2_with fail
  refine (rfield_any A1 m c1 _ w3 (by omega) hr1).mono ?_
  rintro e w' ⟨rfl, rfl⟩
  rw [Hx.out]
  go_wp2_with fail
  refine (right_told A k c ls w3 (x == 65535) hk hr (by rw [Hx.out])).mono ?_
  rintro e w4 ⟨rfl, hb⟩
  have hr1 := hr1.below hb
  have hB := below_trans hB hb
  clear hb hr
  go_wp2_with fail
  refine (rsum_any A1 m c1 _ w4 (by omega) hr1).mono ?_
  rintro e w' ⟨rfl, rfl⟩
  rw [Hx.out]
  go_wp2_with (go_at_call 16; refine (wakes_any _).mono ?_; rintro e w5 ⟨rfl, hbel⟩)
  go_ret
  exact ⟨rfl, below_trans hB hbel⟩

theorem own : ownKnob Try.prog.godebug = none := by kernel_rfl
theorem laidOut : laidOutB Try.prog = true := by kernel_rfl

set_option maxRecDepth 100000 in
theorem lifted (os : Os) (started : os.Started) (H : Type) (enc : TypeId × Value → H) (F : Stop.Interp) :
    ReturnsInHanded {} Try.checked os 3 .any ((Rows.OpenSpec.upto Rows.sumCallsSpec).pre6 enc Try.prog Try.f3 Rows.sumCallsUptoRow.domain false) (((Rows.OpenSpec.upto Rows.sumCallsSpec).at F).post enc Try.prog Try.f3 false true false false) := by
  refine returnsInHanded_of_cond (C := Try.checked) (s := Rows.OpenSpec.upto Rows.sumCallsSpec) (k := Rows.uptoSmall) rfl own started (by kernel_rfl) Try.func3
    (OpenSpec.witness (enc := enc) (C := Try.checked) (s := Rows.OpenSpec.upto Rows.sumCallsSpec) (k := Rows.uptoSmall) rfl false ⟨#[], #[(.slice none 0 0)], []⟩ 8 (by kernel_rfl) (by kernel_rfl) (by kernel_rfl) (x := ([.nil], [], [])) (by kernel_rfl) rfl (by kernel_rfl)) ?_
  intro W base args ds gs before hval0 hW hcnd hk _
  have hbulk := of_decide_eq_true hk
  have hval : ∀ (j : Nat) t v, Try.f3.params[j]? = some t → args[j]? = some v → Value.okWide Try.prog W .any base t v := hval0
  have hW' := hW
  obtain ⟨p, q, hA0, hV, rfl, hfz, hnd⟩ := hW
  have hA : DataW.TrodAll enc Try.prog W 0 (fun _ => true) true Try.f3.params.toList args.toList ds p := hA0
  rw [Try.params3] at hA hval
  obtain ⟨v0, vs0, d0, ds0, p0, q0, hargs, rfl, rfl, h0, r0⟩ := trodAll_cons hA
  obtain ⟨rfl, rfl, rfl⟩ := trodAll_nil r0
  obtain rfl : args = #[v0] := by cases args; simp_all
  obtain ⟨rfl, rfl⟩ := trodVars_none hV
  simp only [List.append_nil, Rows.uptoBulkAll] at hbulk
  have k0 := parts_open (hval 0 22 v0 rfl rfl) h0 (by omega)
  have lt0 : ∀ x ∈ p0, x.block < W.heap.size := by obtain ⟨m, hm⟩ := h0; exact DataW.trod_lt m _ _ _ hm
  clear hA0 hval0
  refine (walk W v0 k0).mono fun e W' ⟨he, bel⟩ => ?_
  subst he
  exact ⟨_, rfl, _, _, _, [], _, [], hW', trodAll_mk1 (shut_bool Try.underlying4 _), (trodAll_cons_mk (Below.trod laidOut (by kernel_rfl) (of_decide_eq_true (by kernel_rfl)) h0 bel lt0) trodAll_mk0), rfl, bel.frame _, fun h => by cases h⟩

theorem over : Rows.sumCallsUptoRow.holds Try.pinned (Rows.OpenSpec.upto Rows.sumCallsSpec) :=
  OpenClaim.holds_of_cond 3 Try.f3 rfl rfl rfl rfl rfl rfl rfl ⟨rfl, rfl, rfl, rfl, rfl⟩ rfl rfl rfl rfl rfl (by kernel_rfl) Try.func3 (by kernel_rfl)
    (of_decide_eq_true (by kernel_rfl)) (by unfold Func.isWrapper; first | (rw [if_pos (by decide +kernel)]; kernel_rfl) | (rw [if_neg (by decide +kernel)]; exact ⟨rfl, rfl⟩))
    (fun os started H enc _ F => lifted os started H enc F)

/-- The statement. -/
theorem proved : Rows.SumCallsUptoSaid := over
#print axioms proved
end Go.Proofs.Ytghpndcninbniaa.sumCalls
