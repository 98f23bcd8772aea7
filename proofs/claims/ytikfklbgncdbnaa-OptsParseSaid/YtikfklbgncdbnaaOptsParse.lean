/-
  OptsParse holds: options of bytes are the document's; what is handed in stays; what is told is new memory.
-/
import Derived.Test.YtikfklbgncdbnaaOptWakes
import Derived.Test.YtikfklbgncdbnaaSumOpen
namespace Go.Proofs.Ytikfklbgncdbnaa.optsParse
set_option maxRecDepth 10000
open Go.ChangeShapes Go.WideShapes Go.ChangeAt Go.RowKit
set_option linter.unusedVariables false

theorem index_own {w : World} {B g n c : Nat} {l : List Int} (h : OwnB w B (some ⟨g, 0, none⟩) n c l) {j : Nat} (hj : j < n) :
    (∀ W : World, (Instr.indexAt 22 (.slice (some ⟨g, 0, none⟩) n c) (.int .i64 (j : Int))).run Try.prog W = .ok (.pointer (some ⟨g, j, none⟩)) W) ∧ w.cell? ⟨g, j, none⟩ = some (.int .u8 (l.getD j 0)) ∧ w.frozen? ⟨g, j, none⟩ = false := by
  have h0 : (0 : Int) ≤ (j : Int) := by omega
  have h1 : (j : Int) < (n : Int) := by omega
  have h' : w.ownsRow B 5 1 (.slice (some ⟨g, 0, none⟩) n c) n (l.map (Value.int .u8)) := h
  exact ⟨fun W => by go_simp, h.cell j hj, World.ownsRow.frozenAt h' j⟩

/-- Bytes of options are written over: what is older than Bd stays, and the options' own row. -/
structure Spoil (w4 : World) (Bd : Nat) (A2 : Option Addr) (m c2 : Nat) (os : List OptV) (wr : World) : Prop where
  low : Below Bd w4 wr
  row : OwnO wr Bd A2 m c2 os
  data : ∀ o ∈ os, ∃ l, OwnB wr Bd o.A o.n o.c l
theorem Spoil.set_ {w4 : World} {Bd : Nat} {A2 : Option Addr} {m c2 : Nat} {os : List OptV} {wr : World} (h : Spoil w4 Bd A2 m c2 os wr) {g n c : Nat} {l : List Int} (ho : OwnB wr Bd (some ⟨g, 0, none⟩) n c l) (k : Nat) (y : Int) : Spoil w4 Bd A2 m c2 os (wr.setCell ⟨g, k, none⟩ (.int .u8 y)) := by
  have hset : But (fun x => x = g) wr (wr.setCell ⟨g, k, none⟩ (.int .u8 y)) := (But.refl (fun x => x = g) _).setCell (p := ⟨g, k, none⟩) rfl _
  refine ⟨h.low.setCell (p := ⟨g, k, none⟩) (ho.at_ rfl).1 _, h.row.but hset (fun k' e he => own_apart ho h.row ⟨_, e, he⟩), fun o hm => ?_⟩
  obtain ⟨l', h'⟩ := h.data o hm
  by_cases hg : o.A = some ⟨g, 0, none⟩
  · rw [hg] at h' ⊢
    exact ⟨_, h'.set_ k y⟩
  · exact ⟨l', h'.butA hset (fun k' e he => hg (by rw [e, he]))⟩
theorem Spoil.drew {w4 : World} {Bd : Nat} {A2 : Option Addr} {m c2 : Nat} {os : List OptV} {wr : World} (h : Spoil w4 Bd A2 m c2 os wr) : Spoil w4 Bd A2 m c2 os wr.drew :=
  ⟨h.low.drew, h.row.drew, fun o hm => by obtain ⟨l, h'⟩ := h.data o hm; exact ⟨l, h'.on (Below.drew (Below.refl _ _))⟩⟩
theorem OwnL.data {w : World} {B : Nat} : ∀ {os : List OptV} {ls : List (Int × List Int)}, OwnL w B os ls → ∀ o ∈ os, ∃ l, OwnB w B o.A o.n o.c l
  | [], [], _, o, ho => by simp at ho
  | o' :: os, l :: ls, h, o, ho => by
    rcases List.mem_cons.1 ho with rfl | ho
    · exact ⟨_, h.1.2.2.2⟩
    · exact OwnL.data h.2 o ho

set_option maxHeartbeats 4000000 in
theorem walk (w : World) (v : Value) (hv : BytesAt w v) :
    Calls Try.prog 3 #[v] w fun e w' => e = .returned (.bool true) ∧ Below w.heap.size w w' := by
  obtain ⟨A, n, c, l, rfl, hnc, hcm, hr⟩ := hv
  obtain ⟨k, hk, hkn, hk60⟩ := min_nat 60 n (by omega)
  have hkc : (k : Int) ≤ (c : Int) := by omega
  have hk0 : (0 : Int) ≤ (k : Int) := by omega
  have hkc2 : k ≤ c := by omega
  obtain ⟨b, eb⟩ : ∃ b, l.take k = b := ⟨_, rfl⟩
  have hrb := hr.take (k := k) hkn
  rw [eb] at hrb
  have Hrb := Lib.hid hrb
  have hba : Below w.heap.size w (w.alloc (.cells #[] 5)) := (Below.refl _ _).alloc (Nat.le_refl _) _
  have Hr1 := Lib.hid (hrb.below hba)
  have Ho := Lib.hid (OwnB.made (w := w.alloc (.cells #[] 5)) (B := w.heap.size) (g := w.heap.size) (cap := 0) (cur := #[]) (heap_alloc_new w _) (Nat.le_refl _) (by simp [maxLen]) rfl)
  have Hba := Lib.hid hba
  clear hr hrb eb hba
  go_enter Try.func3, Try.ntmps3
  go_wp2_with (refine wpList_app rfl (.tmp 16) (.tmp 17) rfl w.heap.size _ A 0 0 k c [] b rfl rfl Ho.out Hr1.out (by omega) (by simp) ?_; intro A1 c1 w1 hown1 _ hb1 _)
  have hbb := Hrb.out.byte
  have hown1' : OwnB w1 w.heap.size A1 k c1 b := by have h := hown1; rw [Nat.zero_add, List.nil_append] at h; exact h
  have hb1' := Hba.out.trans hb1
  have hr1 := hown1'.rd hbb
  obtain ⟨B1, eB1⟩ : ∃ B1, w1.heap.size = B1 := ⟨_, rfl⟩
  have hB1 : w.heap.size ≤ B1 := by have := hb1'.size; omega
  have Hown1 := Lib.hid hr1
  have Hb1 := Lib.hid hb1'
  have Hbb := Lib.hid hbb
  have Hp := Lib.hid (parse_any A1 k c1 b w1 (by omega) hr1)
  clear hown1 hown1' hb1 hb1' hr1 hbb Ho Hr1
  go_wp2_with fail
  refine Hp.out.mono ?_
  rintro e w2 ⟨A2, m2, c2, os2, rfl, ho2, hl2, hb2⟩
  rw [eB1] at ho2 hl2 hb2
  have Hb2 := Lib.hid (Hb1.out.trans (hb2.mono hB1))
  have Hq := Lib.hid (rparse_any A k c b w2 ⟨hkc2, by have := hcm; unfold maxLen; omega⟩ (Hrb.out.below Hb2.out))
  have Ho2 := Lib.hid ho2
  have Hl2 := Lib.hid hl2
  have Hlow2 := Lib.hid hb2
  clear ho2 hl2 hb2 Hp
  go_wp2_with fail
  refine Hq.out.mono ?_
  rintro e w3 ⟨A3, m3, c3, os3, rfl, ho3, hl3, hb3⟩
  have Ho3 := Lib.hid (Ho2.out.on hb3)
  have Hl3 := Lib.hid (Hl2.out.on hb3)
  have Hlow3 := Lib.hid (Hlow2.out.trans (hb3.mono (B' := B1) (by have := Hlow2.out.size; omega)))
  have Hs := Lib.hid (rsame_any A2 A3 m2 c2 m3 c3 os2 os3 _ _ w3 (by have := Ho3.out.cap; have := Ho3.out.capMax; omega) Ho3.out.rd Hl3.out.reads ho3.rd hl3)
  rw [decide_eq_true rfl] at Hs
  clear ho3 hl3 hb3 Hq Ho2 Hl2 Hlow2
  go_wp2_with fail
  refine Hs.out.mono ?_
  rintro e w4 ⟨rfl, hb4⟩
  have Hlow4 := Lib.hid (Hlow3.out.trans (hb4.mono (B' := B1) (by have := Hlow3.out.size; omega)))
  have Hsp := Lib.hid (show Spoil w4 B1 A2 m2 c2 os2 w4 from ⟨Below.refl _ _, Ho3.out.on hb4, OwnL.data (Hl3.out.on hb4)⟩)
  have Hlen := Lib.hid Ho3.out.len
  have hm2 : m2 ≤ 9223372036854775807 := by have := Ho3.out.cap; have := Ho3.out.capMax; unfold maxLen at this; omega
  clear hb4 Hs Ho3 Hl3 Hlow3
  go_wp2_with fail
  go_loopg [39] m2 (fun gk i wr => ∃ j : Nat, Hid (gk + j = m2) ∧ j ≤ m2 ∧ i = .int .i64 (j : Int) ∧ Hid (Spoil w4 B1 A2 m2 c2 os2 wr))
  case atStart => exact ⟨0, rfl, Nat.zero_le _, rfl, Hsp⟩
  case round =>
    obtain ⟨j, hgk, hj, rfl, hsp⟩ := hrel
    by_cases hjm : j < m2
    · obtain ⟨b1, p1, hrun1, hb1, hk1, hd1⟩ := hsp.out.row.rd.index (c := c2) hjm
      have Hmem := Lib.hid (show os2.getD j .none ∈ os2 by have := Hlen.out; simp only [List.getD, List.getElem?_eq_getElem (show j < os2.length by omega), Option.getD_some]; exact List.getElem_mem _)
      obtain ⟨o, eo⟩ : ∃ o, os2.getD j .none = o := ⟨_, rfl⟩
      have Eo := Lib.hid eo
      rw [eo] at hd1 Hmem
      obtain ⟨kd1, Ao, no, co⟩ := o
      simp only at hd1
      have hno : no ≤ 9223372036854775807 := by
        obtain ⟨l', h'⟩ := hsp.out.data _ Hmem.out
        have := h'.cap; have := h'.capMax; unfold maxLen at this; simp only at *; omega
      clear hk1 eo
      go_wp2_with fail

      go_loopg [48] no (fun gk2 i wr => ∃ t : Nat, Hid (gk2 + t = no) ∧ t ≤ no ∧ i = .int .i64 (t : Int) ∧ Hid (Spoil w4 B1 A2 m2 c2 os2 wr))
      case atStart => exact ⟨0, rfl, Nat.zero_le _, rfl, hsp⟩
      case round =>
        clear hsp hb1 hd1 hrun1
        obtain ⟨t, hgt, ht, rfl, hsp⟩ := hrel
        by_cases htn : t < no
        · obtain ⟨b1, p1, hrun1, hb1, hk1, hd1⟩ := hsp.out.row.rd.index (c := c2) hjm
          rw [Eo.out] at hd1
          simp only at hd1
          obtain ⟨l', h'⟩ := hsp.out.data _ Hmem.out
          simp only at h'
          obtain ⟨g, eA, hgB, hgl⟩ := h'.addr (by omega)
          rw [eA] at h'
          obtain ⟨hrun2, hc2, hf2⟩ := index_own h' htn
          have Hset := Lib.hid (fun y => hsp.out.set_ h' t y)
          subst eA
          clear hk1 h' hsp
          go_wp2_with fail
          go_roundg (gk - 1)
          case measure => have := hgt.out; omega
          case rel => exact ⟨t + 1, by have := hgt.out; show gk - 1 + (t + 1) = _; omega, by omega, by go_num, Lib.hid (Hset.out _)⟩
        · obtain rfl : no = t := by omega
          go_wp2_with fail
          go_roundg (m2 - (j + 1))
          case measure => have := hgk.out; omega
          case rel => exact ⟨j + 1, (show m2 - (j + 1) + (j + 1) = m2 by omega), by omega, by go_num, hsp⟩
    · obtain rfl : m2 = j := by omega
      have hlow := Hlow4.out.trans hsp.out.low
      have Hbw := Lib.hid (Hb1.out.trans (hlow.mono (B' := w.heap.size) hB1))
      rw [← eB1] at hlow
      have Hro := Lib.hid (Hown1.out.below hlow)
      clear hlow hsp
      go_wp2_with fail
      refine (awake_any wr).mono ?_
      rintro e w5 ⟨rfl, hb5⟩
      have Hb5 := Lib.hid (Hbw.out.trans (hb5.mono Hbw.out.size))
      have He := Lib.hid (equal_any A1 A k k c1 c b b w5 (Hro.out.below hb5) (Hrb.out.below Hb5.out))
      rw [decide_eq_true rfl] at He
      clear hb5
      go_wp2_with fail
      refine He.out.mono ?_
      rintro e w6 ⟨rfl, rfl⟩
      go_wp2_with fail
      go_ret
      exact ⟨rfl, Hb5.out⟩
theorem own : ownKnob Try.prog.godebug = none := by kernel_rfl
theorem laidOut : laidOutB Try.prog = true := by kernel_rfl

set_option maxRecDepth 100000 in
theorem lifted (os : Os) (started : os.Started) (H : Type) (enc : TypeId × Value → H) :
    ReturnsInHanded {} Try.checked os 3 .any (Rows.optsParseSpec.pre6 enc Try.prog Try.f3 Rows.optsParseRow.domain false) (Rows.optsParseSpec.post enc Try.prog Try.f3 false true false false) := by
  refine returnsInHanded_of_change_sized (C := Try.checked) own started (by kernel_rfl) Try.func3
    (ChangeSpec.witness6 (enc := enc) (C := Try.checked) false ⟨#[], #[(.slice none 0 0)], []⟩ 8 (by kernel_rfl) (by kernel_rfl) (by kernel_rfl) (by kernel_rfl)) ?_
  intro W base args ds gs before hval0 hW hcnd hsz0 _
  have hsz : (DataW.weightsEach Try.prog (Try.f3.params.toList ++ Rows.optsParseSpec.plain.varTypes Try.prog) (ds ++ gs)).all (· ≤ reachBytes) = true := hsz0
  have hval : ∀ (j : Nat) t v, Try.f3.params[j]? = some t → args[j]? = some v → Value.okWide Try.prog W .any base t v := hval0
  have hW' := hW
  obtain ⟨p, q, hA0, hV, rfl, hfz, hnd⟩ := hW
  have hA : DataW.TrodAll enc Try.prog W 0 (fun _ => true) true Try.f3.params.toList args.toList ds p := hA0
  rw [Try.params3] at hA hval hsz
  obtain ⟨v0, vs0, d0, ds0, p0, q0, hargs, rfl, rfl, h0, r0⟩ := trodAll_cons hA
  obtain ⟨rfl, rfl, rfl⟩ := trodAll_nil r0
  obtain rfl : args = #[v0] := by cases args; simp_all
  obtain ⟨rfl, rfl⟩ := trodVars_none hV
  have k0 := bytes_open (hval 0 22 v0 rfl rfl) h0 (fun elems spare e => by subst e; exact sized_slice hsz (j := 0) (t := 22) (e := 5) rfl rfl Try.underlying22)
  have lt0 : ∀ x ∈ p0, x.block < W.heap.size := by obtain ⟨m, hm⟩ := h0; exact DataW.trod_lt m _ _ _ hm
  clear hA0 hval0
  refine (walk W v0 k0).mono fun e W' ⟨he, bel⟩ => ?_
  subst he
  exact ⟨_, rfl, _, _, _, [], _, [], hW', trodAll_mk1 (shut_bool Try.underlying4 _), (trodAll_cons_mk (Below.trod laidOut (by kernel_rfl) (of_decide_eq_true (by kernel_rfl)) h0 bel lt0) trodAll_mk0), rfl, bel.frame _, fun h => by cases h⟩

theorem over : Rows.optsParseRow.holds Try.pinned (OpenSpec.ofChange Rows.optsParseSpec) :=
  OpenClaim.holds_of_wide 3 Try.f3 rfl rfl rfl rfl rfl rfl rfl ⟨rfl, rfl, rfl, rfl, rfl⟩ rfl rfl rfl rfl rfl (by kernel_rfl) Try.func3 (by kernel_rfl)
    (of_decide_eq_true (by kernel_rfl)) (by unfold Func.isWrapper; first | (rw [if_pos (by decide +kernel)]; kernel_rfl) | (rw [if_neg (by decide +kernel)]; exact ⟨rfl, rfl⟩))
    (fun os started H enc _ => lifted os started H enc)

/-- The statement. -/
theorem proved : Rows.OptsParseSaid := over
#print axioms proved
end Go.Proofs.Ytikfklbgncdbnaa.optsParse
