/-
  Texts laid together: IcmpRefRead, BytesEq, IcmpAsk, IcmpPut.
-/
import Derived.Test.YtheknmihnkennaaGreatZC20
import Derived.Test.YtheknmihnkennaaGreatZC10
import Derived.Test.YtheknmihnkennaaGreatZC02
import Derived.Lib.Hide
import Derived.Outline
import Derived.Test.YtheknmihnkennaaGreatZC05
import Derived.RegionTactic
import Derived.Test.YtheknmihnkennaaGreatZC04
import Derived.BigRegion
import Derived.Deep.DeepCutAuto
import Derived.Deep.CutRange
import Derived.Deep.RegionHeld3

/-
  The document's own answers for messages (culvertref08): Parse, Exceeded.
-/
namespace Go.Proofs.YtheknmihnkennaaGreat
set_option maxRecDepth 10000
open Go.RowKit
set_option linter.unusedVariables false
set_option linter.unusedSimpArgs false

/-- Parse, of bytes that are no message, and of those that are. -/
def MsgBad (x : Int) (w : World) (e : Ending) (w' : World) : Prop := e = .returned (.tuple #[.agg #[.int .u8 0, .int .u8 0, .int .u32 0, .slice none 0 0], .int .i64 x]) ∧ Below w.heap.size w w'
def MsgGood (s : Msg) (m : Nat) (w : World) (e : Ending) (w' : World) : Prop :=
  ∃ AD cD, e = .returned (.tuple #[.agg #[.int .u8 s.ty, .int .u8 s.cd, .int .u32 s.rs, .slice AD m cD], .int .i64 0]) ∧ m ≤ cD ∧ cD ≤ maxLen ∧ OwnB w' w.heap.size AD m cD s.d ∧ Below w.heap.size w w'

structure Pars (w : World) (z : Nat) (b0 b1 v : Int) (wr : World) : Prop where
  old : Below w.heap.size w wr
  res : wr.heap[z]? = some (.cells #[.int .u8 0, .int .u8 0, .int .u32 0, .slice none 0 0] 33 (0, 0))
  mine : wr.heap[z + 1]? = some (.cells #[.int .u8 b0, .int .u8 b1, .int .u32 v, .slice none 0 0] 33 (0, 0))
  size : wr.heap.size = z + 2
theorem Pars.step {w : World} {z : Nat} {b0 b1 v : Int} {wr : World} (h : Pars w z b0 b1 v wr) (hz : w.heap.size = z) (y : Int) : Pars w z b0 b1 y (wr.setCell ⟨z + 1, 2, none⟩ (.int .u32 y)) :=
  ⟨h.old.setCell (by simp <;> omega) _, other_blk h.res (by omega) _, set_cell4 h.mine _, by simpa using h.size⟩
theorem Pars.drew {w : World} {z : Nat} {b0 b1 v : Int} {wr : World} (h : Pars w z b0 b1 v wr) : Pars w z b0 b1 v wr.drew := ⟨h.old.drew, h.res, h.mine, h.size⟩
theorem own_store {w : World} {B p i : Nat} {A : Option Addr} {n c : Nat} {l : List Int} (h : OwnB w B A n c l) (hp : p < B) (v : Value) : OwnB (w.setCell ⟨p, i, none⟩ v) B A n c l :=
  h.but ((But.refl (fun k => k = p) _).setCell (p := ⟨p, i, none⟩) rfl v) (fun k hk e => by omega)
theorem set_cell4d {w : World} {q : Nat} {u0 u1 u2 u3 : Value} {t : TypeId} (h : w.heap[q]? = some (.cells #[u0, u1, u2, u3] t (0, 0))) (v : Value) : (w.setCell ⟨q, 3, none⟩ v).heap[q]? = some (.cells #[u0, u1, u2, v] t (0, 0)) := by
  simp [World.setCell, Array.getElem?_modify, h]
structure Overs (w : World) (z : Nat) (l : List Int) (j : Nat) (Aj : Option Addr) (cj : Nat) (wr : World) : Prop where
  old : Below w.heap.size w wr
  res : wr.heap[z]? = some (.cells #[.int .u8 0, .int .u8 0, .int .u32 0, .slice none 0 0] 33 (0, 0))
  mine : wr.heap[z + 1]? = some (.cells #[.int .u8 11, .int .u8 0, .int .u32 0, .slice Aj j cj] 33 (0, 0))
  row : OwnB wr (z + 2) Aj j cj (l.take j)
  size : z + 2 ≤ wr.heap.size
theorem Overs.drew {w : World} {z : Nat} {l : List Int} {j : Nat} {Aj : Option Addr} {cj : Nat} {wr : World} (h : Overs w z l j Aj cj wr) : Overs w z l j Aj cj wr.drew := ⟨h.old.drew, h.res, h.mine, h.row.on (Below.drew (Below.refl _ _)), h.size⟩
theorem Overs.step {w : World} {z : Nat} {l : List Int} {j : Nat} {Aj : Option Addr} {cj : Nat} {wr : World} (h : Overs w z l j Aj cj wr) (hz : w.heap.size = z) {w1 : World} {A1 : Option Addr} {c1 : Nat} (ho : OwnB w1 (z + 2) A1 (j + 1) c1 (l.take (j + 1))) (hb : Below (z + 2) wr w1) :
    Overs w z l (j + 1) A1 c1 (w1.setCell ⟨z + 1, 3, none⟩ (.slice A1 (j + 1) c1)) := by
  have hm : w1.heap[z + 1]? = some (.cells #[.int .u8 11, .int .u8 0, .int .u32 0, .slice Aj j cj] 33 (0, 0)) := (hb.block _ (by omega)).trans h.mine
  have hr : w1.heap[z]? = some (.cells #[.int .u8 0, .int .u8 0, .int .u32 0, .slice none 0 0] 33 (0, 0)) := (hb.block _ (by omega)).trans h.res
  refine ⟨(h.old.trans (hb.mono (by omega))).setCell (p := ⟨z + 1, 3, none⟩) (by simp <;> omega) _, other_blk hr (by omega) _, set_cell4d hm _, own_store ho (by omega) _, ?_⟩
  have := hb.size
  have := h.size
  simp <;> omega

end Go.Proofs.YtheknmihnkennaaGreat

/-
  The contract of bytes.Equal (for the stages that do not need the options'): over bytes that read as lists.
-/
namespace Go.Proofs.YtheknmihnkennaaGreat
set_option maxRecDepth 10000
open Go.RowKit

theorem strs_eqB (a b : List Int) (ha : ∀ x ∈ a, 0 ≤ x ∧ x < 256) (hb : ∀ x ∈ b, 0 ≤ x ∧ x < 256) : ((strOfNums a).toList == (strOfNums b).toList) = decide (a = b) := by
  rw [ByteArray.toList_eq, ByteArray.toList_eq]
  by_cases e : a = b
  · subst e; simp
  · rw [beq_eq_false_iff_ne.2 (fun x => e (nums_inj _ _ ha hb (by simpa [strOfNums_data] using x)))]
    simp [e]
theorem bequal_any (A A' : Option Addr) (n n' c c' : Nat) (l l' : List Int) (w : World) (x : Bool) (h : Rd w A n l) (h' : Rd w A' n' l') (hx : decide (l = l') = x) :
    Calls Tryz.prog 53 #[.slice A n c, .slice A' n' c'] w fun e w' => e = .returned (.bool x) ∧ w = w' := by
  have h1 := conv_rd h c
  have h2 := conv_rd h' c'
  have Hd := Lib.hid ((strs_eqB l l' h.byte h'.byte).trans hx)
  clear h h' hx
  go_enter Tryz.func53, Tryz.ntmps53
  go_wp2
  go_ret
  exact ⟨ret_bool (Hd.out), rfl⟩
end Go.Proofs.YtheknmihnkennaaGreat

/-
  The contracts of package icmp's Echo, WithId, Exceeded, Same; of bytes.Clone of any slice.
-/
namespace Go.Proofs.YtheknmihnkennaaGreat
set_option maxRecDepth 10000
open Go.RowKit
set_option linter.unusedSimpArgs false
set_option linter.unusedVariables false

theorem bclone_all (A : Option Addr) (n c : Nat) (l : List Int) (w : World) (hn : n ≤ 140737488355328) (h : Rd w A n l) :
    Calls Tryz.prog 17 #[.slice A n c] w (RowIs n l w) := by
  have hnil : ∀ W : World, (binOp .eql 22 (.slice A n c) (.slice none 0 0)).run Tryz.prog W = .ok (.bool A.isNone) W := fun W => Lib.run_eql_slice_nil W _ _ A n c 0 0 Tryz.underlying22
  cases A with
  | none =>
    obtain rfl : n = 0 := by
      rcases Nat.eq_zero_or_pos n with h0 | h0
      · exact h0
      · obtain ⟨b, o, e, _⟩ := h.at_ h0; cases e
    have hl : l = [] := List.eq_nil_of_length_eq_zero h.len
    subst hl
    have Ho := Lib.hid (OwnB.nil w w.heap.size)
    clear h
    go_enter Tryz.func17, Tryz.ntmps17
    go_wp2_with fail
    go_ret
    exact ⟨none, 0, rfl, Nat.le_refl _, by simp [maxLen], Ho.out, Below.refl _ _⟩
  | some a =>
    have hb := (Below.refl w.heap.size w).alloc (Nat.le_refl _) (.cells #[] 5)
    have Ho := Lib.hid (OwnB.made (w := w.alloc (.cells #[] 5)) (B := w.heap.size) (g := w.heap.size) (cap := 0) (cur := #[]) (heap_alloc_new w _) (Nat.le_refl _) (by simp [maxLen]) rfl)
    have Hr := Lib.hid (h.below hb)
    have Hb := Lib.hid hb
    clear h hb
    go_enter Tryz.func17, Tryz.ntmps17
    go_wp2_with (refine wpList_app rfl (.tmp 5) (.tmp 6) rfl w.heap.size (some ⟨w.heap.size, 0, none⟩) (some a) 0 0 n c [] l rfl rfl Ho.out Hr.out (by omega) (by simp) ?_; intro A2 c2 w2 hown2 _ hb2 _)
    go_ret
    have h2 := hown2
    rw [Nat.zero_add, List.nil_append] at h2
    exact ⟨A2, c2, by simp, h2.cap, h2.capMax, h2, Hb.out.trans hb2⟩

theorem echo8_any (ty cd rs : Int) (A : Option Addr) (n c : Nat) (w : World) (hr : 0 ≤ rs ∧ rs < 4294967296) :
    Calls Tryz.prog 58 #[.agg #[.int .u8 ty, .int .u8 cd, .int .u32 rs, .slice A n c]] w (EchoIs ty cd rs w) := by
  obtain ⟨z, hz⟩ : ∃ z, w.heap.size = z := ⟨_, rfl⟩
  have hb0 := (Below.refl w.heap.size w).alloc (Nat.le_refl _) (.cells #[.int .u8 ty, .int .u8 cd, .int .u32 rs, .slice A n c] 33)
  have hk := heap_alloc_new w (.cells #[.int .u8 ty, .int .u8 cd, .int .u32 rs, .slice A n c] 33)
  rw [hz] at hk
  obtain ⟨x, ex⟩ : ∃ x, sortM ty cd = x := ⟨_, rfl⟩
  have Hs := Lib.hid (fun W => sort8_any ty cd rs A n c x W ex)
  have Hb := Lib.hid hb0
  have Hk := Lib.hid hk
  have hse := sort_echo ty cd
  rw [ex] at hse
  have hq1 : IntKind.u16.wrap (rs / 65536) = rs / 65536 := by (simp [IntKind.wrap, IntKind.bits, IntKind.signed] <;> omega)
  have hq2 : IntKind.u16.wrap rs = rs % 65536 := by (simp [IntKind.wrap, IntKind.bits, IntKind.signed] <;> omega)
  have hq5 : IntKind.u32.wrap (rs / 65536) = rs / 65536 := by (simp [IntKind.wrap, IntKind.bits, IntKind.signed] <;> omega)
  clear hb0 hk ex
  have Hr := Lib.hid hr
  rcases hse with ⟨he, hx⟩ | ⟨he, hx⟩
  · have He := Lib.hid he
    clear he
    rcases hx with rfl | rfl
    ·
      go_enter Tryz.func58, Tryz.ntmps58
      go_wp2_with fail
      refine (Hs.out _).mono ?_
      rintro e w1 ⟨rfl, hb1⟩
      have hk1 := blk_on Hk.out hb1
      obtain ⟨c0, c1, c2, c3⟩ := cells4 hk1
      have Hb1 := Lib.hid (below_trans Hb.out hb1)
      clear hb1 hk1
      go_wp2_with fail
      go_region
      go_wp2_with fail
      refine bodyPost_ret (v := .tuple #[.int .u16 (rs / 65536), .int .u16 (rs % 65536), .bool true]) (by simp [results, Tryz.results58, go_sem]) rfl ?_
      exact ⟨by rw [if_pos He.out], Hb1.out.drew⟩
    ·
      go_enter Tryz.func58, Tryz.ntmps58
      go_wp2_with fail
      refine (Hs.out _).mono ?_
      rintro e w1 ⟨rfl, hb1⟩
      have hk1 := blk_on Hk.out hb1
      obtain ⟨c0, c1, c2, c3⟩ := cells4 hk1
      have Hb1 := Lib.hid (below_trans Hb.out hb1)
      clear hb1 hk1
      go_wp2_with fail
      go_region
      go_wp2_with fail
      refine bodyPost_ret (v := .tuple #[.int .u16 (rs / 65536), .int .u16 (rs % 65536), .bool true]) (by simp [results, Tryz.results58, go_sem]) rfl ?_
      exact ⟨by rw [if_pos He.out], Hb1.out.drew⟩
  · have He := Lib.hid (show ¬ echoM ty cd = true by rw [he]; simp)
    clear he hr
    rcases hx with rfl | rfl
    ·
      go_enter Tryz.func58, Tryz.ntmps58
      go_wp2_with fail
      refine (Hs.out _).mono ?_
      rintro e w1 ⟨rfl, hb1⟩
      have Hb1 := Lib.hid (below_trans Hb.out hb1)
      clear hb1
      go_wp2_with fail
      refine bodyPost_ret (v := .tuple #[.int .u16 0, .int .u16 0, .bool false]) (by simp [results, Tryz.results58, go_sem]) rfl ?_
      exact ⟨by rw [if_neg He.out], Hb1.out⟩
    ·
      go_enter Tryz.func58, Tryz.ntmps58
      go_wp2_with fail
      refine (Hs.out _).mono ?_
      rintro e w1 ⟨rfl, hb1⟩
      have Hb1 := Lib.hid (below_trans Hb.out hb1)
      clear hb1
      go_wp2_with fail
      refine bodyPost_ret (v := .tuple #[.int .u16 0, .int .u16 0, .bool false]) (by simp [results, Tryz.results58, go_sem]) rfl ?_
      exact ⟨by rw [if_neg He.out], Hb1.out⟩

theorem same8_any (s t : Msg) (A : Option Addr) (n c : Nat) (A' : Option Addr) (n' c' : Nat) (w : World) (x : Bool) (h : Rd w A n s.d) (h' : Rd w A' n' t.d) (hx : msgSame s t = x) :
    Calls Tryz.prog 24 #[.agg #[.int .u8 s.ty, .int .u8 s.cd, .int .u32 s.rs, .slice A n c], .agg #[.int .u8 t.ty, .int .u8 t.cd, .int .u32 t.rs, .slice A' n' c']] w (BoolIs x w) := by
  obtain ⟨ty, cd, rs, d⟩ := s
  obtain ⟨ty', cd', rs', d'⟩ := t
  simp only at h h' ⊢
  have hb := ((Below.refl w.heap.size w).alloc (Nat.le_refl _) (.cells #[.int .u8 ty, .int .u8 cd, .int .u32 rs, .slice A n c] 33)).alloc (by simp) (.cells #[.int .u8 ty', .int .u8 cd', .int .u32 rs', .slice A' n' c'] 33)
  have H1 := Lib.hid (h.below hb)
  have H2 := Lib.hid (h'.below hb)
  have Hb := Lib.hid hb
  clear h h' hb
  unfold msgSame at hx
  simp only at hx
  by_cases h1 : ty = ty'
  case neg =>
    have h1b : (ty == ty') = false := by simpa using h1
    have Hx := Lib.hid (show x = false by rw [← hx]; simp [h1])
    clear hx h1
    go_enter Tryz.func24, Tryz.ntmps24
    go_wp2_with fail
    go_ret
    exact ⟨ret_bool (by rw [Hx.out]), Hb.out⟩
  subst h1
  by_cases h2 : cd = cd'
  case neg =>
    have h2b : (cd == cd') = false := by simpa using h2
    have Hx := Lib.hid (show x = false by rw [← hx]; simp [h2])
    clear hx h2
    go_enter Tryz.func24, Tryz.ntmps24
    go_wp2_with fail
    go_ret
    exact ⟨ret_bool (by rw [Hx.out]), Hb.out⟩
  subst h2
  by_cases h3 : rs = rs'
  case neg =>
    have h3b : (rs == rs') = false := by simpa using h3
    have Hx := Lib.hid (show x = false by rw [← hx]; simp [h3])
    clear hx h3
    go_enter Tryz.func24, Tryz.ntmps24
    go_wp2_with fail
    go_ret
    exact ⟨ret_bool (by rw [Hx.out]), Hb.out⟩
  subst h3
  have Hx := Lib.hid (show decide (d = d') = x by simpa using hx)
  clear hx
  go_enter Tryz.func24, Tryz.ntmps24
  go_wp2_with fail
  refine (bequal_any A A' n n' c c' d d' _ x H1.out H2.out Hx.out).mono ?_
  rintro e w' ⟨rfl, rfl⟩
  go_wp2_with fail
  go_ret
  exact ⟨rfl, Hb.out⟩
end Go.Proofs.YtheknmihnkennaaGreat

/-
  The contract of package icmp's Put.
-/
namespace Go.Proofs.YtheknmihnkennaaGreat
set_option maxRecDepth 10000
open Go.RowKit
set_option linter.unusedSimpArgs false
set_option linter.unusedVariables false

theorem field_skip (s : Msg) : 65535 - sumL [headM s, be32 s.rs, s.d].flatten = fieldM s := by
  have e : ws false (headM s ++ (be16 0 ++ tailM s)) = ws false (headM s ++ tailM s) := by
    rw [ws_even _ _ (by simp [headM]), ws_even _ _ (by simp [be16]), ws_b16, ws_even (headM s) _ (by simp [headM])]; omega
  unfold fieldM sumL
  rw [e]
  simp [tailM]
theorem flat_msgB (s : Msg) (f : Int) (hf : fieldM s = f) : [headM s, be16 f, be32 s.rs, s.d].flatten = msgB s := by
  unfold msgB tailM; rw [hf]; simp
theorem headM_bytes (ty cd : Int) (h : 0 ≤ ty ∧ ty < 256) (h' : 0 ≤ cd ∧ cd < 256) : ∀ x ∈ [ty, cd], 0 ≤ x ∧ x < 256 := by intro x hx; simp at hx; omega
theorem RdL.threeM (w : World) (g : Nat) (hg : w.heap.size = g) (t : TypeId) (A B C : Option Addr) (n c n1 c1 n2 c2 : Nat) (l l1 l2 : List Int)
    (hc : n ≤ c ∧ c ≤ maxLen) (hc1 : n1 ≤ c1 ∧ c1 ≤ maxLen) (hc2 : n2 ≤ c2 ∧ c2 ≤ maxLen) (h : Rd w A n l) (h1 : Rd w B n1 l1) (h2 : Rd w C n2 l2) :
    RdL (w.alloc (.cells #[.slice A n c, .slice B n1 c1, .slice C n2 c2] t)) (some ⟨g, 0, none⟩) 3 [l, l1, l2] := by
  have := h.len; have := h1.len; have := h2.len
  subst n n1 n2
  refine RdL.row w g hg t (0, 0) [.slice A l.length c, .slice B l1.length c1, .slice C l2.length c2] [l, l1, l2] (fun i hi => ?_)
  match i, hi with
  | 0, _ => exact ⟨A, c, rfl, hc.1, hc.2, h⟩
  | 1, _ => exact ⟨B, c1, rfl, hc1.1, hc1.2, h1⟩
  | 2, _ => exact ⟨C, c2, rfl, hc2.1, hc2.2, h2⟩
theorem RdL.fourM (w : World) (g : Nat) (hg : w.heap.size = g) (t : TypeId) (A B C D : Option Addr) (n c n1 c1 n2 c2 n3 c3 : Nat) (l l1 l2 l3 : List Int)
    (hc : n ≤ c ∧ c ≤ maxLen) (hc1 : n1 ≤ c1 ∧ c1 ≤ maxLen) (hc2 : n2 ≤ c2 ∧ c2 ≤ maxLen) (hc3 : n3 ≤ c3 ∧ c3 ≤ maxLen) (h : Rd w A n l) (h1 : Rd w B n1 l1) (h2 : Rd w C n2 l2) (h3 : Rd w D n3 l3) :
    RdL (w.alloc (.cells #[.slice A n c, .slice B n1 c1, .slice C n2 c2, .slice D n3 c3] t)) (some ⟨g, 0, none⟩) 4 [l, l1, l2, l3] := by
  have := h.len; have := h1.len; have := h2.len; have := h3.len
  subst n n1 n2 n3
  refine RdL.row w g hg t (0, 0) [.slice A l.length c, .slice B l1.length c1, .slice C l2.length c2, .slice D l3.length c3] [l, l1, l2, l3] (fun i hi => ?_)
  match i, hi with
  | 0, _ => exact ⟨A, c, rfl, hc.1, hc.2, h⟩
  | 1, _ => exact ⟨B, c1, rfl, hc1.1, hc1.2, h1⟩
  | 2, _ => exact ⟨C, c2, rfl, hc2.1, hc2.2, h2⟩
  | 3, _ => exact ⟨D, c3, rfl, hc3.1, hc3.2, h3⟩

theorem put8_bad (ty cd rs : Int) (A : Option Addr) (n c : Nat) (w : World) (hn : 1472 < n) :
    Calls Tryz.prog 65 #[.agg #[.int .u8 ty, .int .u8 cd, .int .u32 rs, .slice A n c]] w (PutM [] 0 3 w) := by
  have hni : (1472 : Int) < (n : Int) := by omega
  have Hb := Lib.hid ((Below.refl w.heap.size w).alloc (Nat.le_refl _) (.cells #[.int .u8 ty, .int .u8 cd, .int .u32 rs, .slice A n c] 33))
  go_enter Tryz.func65, Tryz.ntmps65
  go_wp2_with fail
  go_ret2
  exact ⟨none, 0, rfl, Nat.le_refl _, by simp [maxLen], OwnB.nil _ _, Hb.out⟩

set_option maxHeartbeats 1000000 in
theorem put8_ok (s : Msg) (A : Option Addr) (n c : Nat) (w : World) (hnum : MsgNum s) (hc : n ≤ c ∧ c ≤ maxLen) (hr : Rd w A n s.d) (hn : n ≤ 1472) :
    Calls Tryz.prog 65 #[.agg #[.int .u8 s.ty, .int .u8 s.cd, .int .u32 s.rs, .slice A n c]] w (PutM (msgB s) (8 + n) 0 w) := by
  have hf := fieldM_bd s
  obtain ⟨f, ef⟩ : ∃ f, fieldM s = f := ⟨_, rfl⟩
  rw [ef] at hf
  have hfs := field_skip s
  rw [ef] at hfs
  have hlm : (msgB s).length = 8 + n := by rw [msgB_len, hr.len]
  have hln := hr.len
  obtain ⟨ty, cd, rs, d⟩ := s
  have ht := hnum.ty
  have hcd := hnum.cd
  have hrs := hnum.rs
  simp only at hr ht hcd hrs hfs hln ⊢
  obtain ⟨z, hz⟩ : ∃ z, w.heap.size = z := ⟨_, rfl⟩
  obtain ⟨w0, ew⟩ : ∃ w0, w.alloc (.cells #[.int .u8 ty, .int .u8 cd, .int .u32 rs, .slice A n c] 33) = w0 := ⟨_, rfl⟩
  have hb0 : Below w.heap.size w w0 := by rw [← ew]; exact (Below.refl _ _).alloc (Nat.le_refl _) _
  have hk : w0.heap[z]? = some (.cells #[.int .u8 ty, .int .u8 cd, .int .u32 rs, .slice A n c] 33 (0, 0)) := by rw [← ew, ← hz]; exact heap_alloc_new w _
  have HK := Lib.hid (show ∀ w', Below w0.heap.size w0 w' → (w'.cell? ⟨z, 0, none⟩ = some (.int .u8 ty) ∧ w'.cell? ⟨z, 1, none⟩ = some (.int .u8 cd) ∧ w'.cell? ⟨z, 2, none⟩ = some (.int .u32 rs) ∧ w'.cell? ⟨z, 3, none⟩ = some (.slice A n c)) ∧ Rd w' A n d from fun w' hb => ⟨cells4 (blk_on hk hb), (hr.below hb0).below hb⟩)
  have Hb0 := Lib.hid hb0
  have Hew := Lib.hid ew
  have Hfs := Lib.hid hfs
  have Hef := Lib.hid ef
  have Hlm := Lib.hid hlm
  have Hln := Lib.hid hln
  have Hf := Lib.hid (show 0 ≤ f ∧ f < 65536 by omega)
  have Hc := Lib.hid hc
  have Hbt := Lib.hid (headM_bytes ty cd ht hcd)
  have hni : ¬ (1472 : Int) < (n : Int) := by omega
  obtain ⟨⟨c0, c1, c2, c3⟩, _⟩ := HK.out w0 (Below.refl _ _)
  clear hk hb0 ew hr hfs ef hlm hnum ht hcd hf hln hc
  go_enter Tryz.func65, Tryz.ntmps65
  go_upto_region 1 with (fail)
  rw [Hew.out]
  go_upto_region 3 with (fail)
  clear c0 c1 c2 c3
  go_cut [4, 5] (fun s4 s5 wx => ∃ (g4 : Nat) (A5 : Option Addr) (c5 : Nat), s4 = .slice (some ⟨g4, 0, none⟩) 2 2 ∧ s5 = .slice A5 4 c5 ∧ Hid (Rd wx (some ⟨g4, 0, none⟩) 2 [ty, cd]) ∧ Hid (Rd wx A5 4 (be32 rs)) ∧ Hid (4 ≤ c5 ∧ c5 ≤ maxLen) ∧ Hid (Below w0.heap.size w0 wx))
  case first =>
    have Hd := Lib.hid (Below.drew (Below.refl w0.heap.size w0))
    refine wp_region_noPanic ?_
    refine wp_region_held_drew (S := fun w' => (w'.cell? ⟨z, 0, none⟩ = some (.int .u8 ty) ∧ w'.cell? ⟨z, 1, none⟩ = some (.int .u8 cd) ∧ w'.cell? ⟨z, 2, none⟩ = some (.int .u32 rs) ∧ w'.cell? ⟨z, 3, none⟩ = some (.slice A n c))) (by kernel_rfl) (HK.out _ Hd.out).1 (fun hHeld => ?_)
    obtain ⟨wd, ewd⟩ : ∃ wd, w0.drew = wd := ⟨_, rfl⟩
    rw [ewd] at Hd hHeld ⊢
    clear ewd
    refine wpAnyH_take (i := 0) (oi := { dst := some 11, op := Go.Op.fieldAddr 33 (Go.Operand.tmp 1) 0, type := 0, pos := "icmp.go:57", after := #[], guard := none }) (v := ?_) rfl (by kernel_rfl) (by kernel_rfl) (by kernel_rfl) (fun _ _ _ h => h) (Or.inl ⟨by rfl, ?_⟩) (by assumption) ?_
    rotate_left 1
    · intro w' hSw; (go_simp <;> (with_reducible rfl))
    (try simp only [Act.put, List.setIfInBounds_toArray, List.set_cons_zero, List.set_cons_succ])
    refine wpAnyH_take (i := 1) (oi := { dst := some 12, op := Go.Op.load 5 (Go.Operand.tmp 11), type := 5, pos := "icmp.go:57", after := #[{ on := 0, ground := Go.Ground.data }], guard := none }) (v := ?_) rfl (by kernel_rfl) (by kernel_rfl) (by kernel_rfl) (fun _ _ _ h => h) (Or.inl ⟨by rfl, ?_⟩) (by assumption) ?_
    rotate_left 1
    · intro w' hSw; (go_simp <;> (with_reducible rfl))
    (try simp only [Act.put, List.setIfInBounds_toArray, List.set_cons_zero, List.set_cons_succ])
    refine wpAnyH_take (i := 2) (oi := { dst := some 13, op := Go.Op.fieldAddr 33 (Go.Operand.tmp 1) 1, type := 0, pos := "icmp.go:57", after := #[], guard := none }) (v := ?_) rfl (by kernel_rfl) (by kernel_rfl) (by kernel_rfl) (fun _ _ _ h => h) (Or.inl ⟨by rfl, ?_⟩) (by assumption) ?_
    rotate_left 1
    · intro w' hSw; (go_simp <;> (with_reducible rfl))
    (try simp only [Act.put, List.setIfInBounds_toArray, List.set_cons_zero, List.set_cons_succ])
    refine wpAnyH_take (i := 3) (oi := { dst := some 14, op := Go.Op.load 5 (Go.Operand.tmp 13), type := 5, pos := "icmp.go:57", after := #[{ on := 2, ground := Go.Ground.data }], guard := none }) (v := ?_) rfl (by kernel_rfl) (by kernel_rfl) (by kernel_rfl) (fun _ _ _ h => h) (Or.inl ⟨by rfl, ?_⟩) (by assumption) ?_
    rotate_left 1
    · intro w' hSw; (go_simp <;> (with_reducible rfl))
    (try simp only [Act.put, List.setIfInBounds_toArray, List.set_cons_zero, List.set_cons_succ])
    refine wpAnyH_take (i := 5) (oi := { dst := some 16, op := Go.Op.fieldAddr 33 (Go.Operand.tmp 1) 2, type := 0, pos := "icmp.go:57", after := #[], guard := none }) (v := ?_) rfl (by kernel_rfl) (by kernel_rfl) (by kernel_rfl) (fun _ _ _ h => h) (Or.inl ⟨by rfl, ?_⟩) (by assumption) ?_
    rotate_left 1
    · intro w' hSw; (go_simp <;> (with_reducible rfl))
    (try simp only [Act.put, List.setIfInBounds_toArray, List.set_cons_zero, List.set_cons_succ])
    refine wpAnyH_take (i := 6) (oi := { dst := some 17, op := Go.Op.load 24 (Go.Operand.tmp 16), type := 24, pos := "icmp.go:57", after := #[{ on := 5, ground := Go.Ground.data }], guard := none }) (v := ?_) rfl (by kernel_rfl) (by kernel_rfl) (by kernel_rfl) (fun _ _ _ h => h) (Or.inl ⟨by rfl, ?_⟩) (by assumption) ?_
    rotate_left 1
    · intro w' hSw; (go_simp <;> (with_reducible rfl))
    (try simp only [Act.put, List.setIfInBounds_toArray, List.set_cons_zero, List.set_cons_succ])
    refine wpAnyH_ready (rs := [4, 7]) (by kernel_rfl) (by simp) ?_
    refine AllReadyH.cons (o := { dst := some 15, op := Go.Op.buildSlice 22 2 #[(0, Go.Operand.tmp 12), (1, Go.Operand.tmp 14)], type := 22, pos := "icmp.go:57", after := #[{ on := 1, ground := Go.Ground.data }, { on := 3, ground := Go.Ground.data }], guard := none }) rfl (fun K hK => ?_) (AllReadyH.cons (o := { dst := some 18, op := Go.Op.call { callee := Go.Callee.value (Go.Operand.func 93), args := #[Go.Operand.const (Go.Value.slice none 0 0), Go.Operand.tmp 17], argTypes := #[22, 24] }, type := 22, pos := "icmp.go:57", after := #[{ on := 6, ground := Go.Ground.data }], guard := none }) rfl (fun K hK => ?_) AllReadyH.nil)
    · have hba := (Below.refl wd.heap.size wd).alloc (Nat.le_refl _) (.cells #[.int .u8 ty, .int .u8 cd] 5)
      have Hd2 := Lib.hid (below_trans Hd.out hba)
      have Hr4 := Lib.hid (Rd.const wd [ty, cd] 5 (0, 0) Hbt.out)
      go_simp
      refine hK.out _ _ ?_ (fun hHeld => ?_)
      · exact (HK.out _ Hd2.out).1
      clear hK K
      (try simp only [Act.put, List.setIfInBounds_toArray, List.set_cons_zero, List.set_cons_succ])
      refine wpAnyH_ready (rs := [7]) (by kernel_rfl) (by simp) ?_
      refine AllReadyH.cons (o := { dst := some 18, op := Go.Op.call { callee := Go.Callee.value (Go.Operand.func 93), args := #[Go.Operand.const (Go.Value.slice none 0 0), Go.Operand.tmp 17], argTypes := #[22, 24] }, type := 22, pos := "icmp.go:57", after := #[{ on := 6, ground := Go.Ground.data }], guard := none }) rfl (fun K hK => ?_) AllReadyH.nil
      (try go_simp)
      refine (u32_lays none 0 0 [] rs _ hrs (by simp [maxLen]) (by omega) (Rd.nil _ _)).mono ?_
      rintro e w6 ⟨A5, c5, rfl, hk5, hm5, ho5, hb5⟩
      rw [List.nil_append, Nat.zero_add] at ho5
      rw [Nat.zero_add] at hk5
      have Ho5 := Lib.hid ho5
      have Hb5 := Lib.hid hb5
      refine hK.out _ _ ?_ (fun hHeld => ?_)
      · exact (HK.out _ (below_trans Hd2.out Hb5.out)).1
      clear hK K ho5 hb5
      (try simp only [Act.put, List.setIfInBounds_toArray, List.set_cons_zero, List.set_cons_succ])
      refine wpAnyH_take (i := 8) (oi := { dst := some 4, op := Go.Op.assign (Go.Operand.tmp 15), type := 22, pos := "icmp.go:57", after := #[{ on := 4, ground := Go.Ground.data }, { on := 7, ground := Go.Ground.chain }, { on := 0, ground := Go.Ground.phase }, { on := 1, ground := Go.Ground.phase }, { on := 2, ground := Go.Ground.phase }, { on := 3, ground := Go.Ground.phase }, { on := 4, ground := Go.Ground.phase }, { on := 5, ground := Go.Ground.textOnly Go.Departure.lateStores }, { on := 6, ground := Go.Ground.textOnly Go.Departure.lateStores }, { on := 7, ground := Go.Ground.textOnly Go.Departure.lateStoresUnsure }], guard := none }) (v := ?_) rfl (by kernel_rfl) (by kernel_rfl) (by kernel_rfl) (fun _ _ _ h => h) (Or.inl ⟨by rfl, ?_⟩) (by assumption) ?_
      rotate_left 1
      · intro w' hSw; (go_simp <;> (with_reducible rfl))
      (try simp only [Act.put, List.setIfInBounds_toArray, List.set_cons_zero, List.set_cons_succ])
      refine wpAnyH_take (i := 9) (oi := { dst := some 5, op := Go.Op.assign (Go.Operand.tmp 18), type := 22, pos := "icmp.go:57", after := #[{ on := 7, ground := Go.Ground.data }, { on := 8, ground := Go.Ground.chain }, { on := 0, ground := Go.Ground.phase }, { on := 1, ground := Go.Ground.phase }, { on := 2, ground := Go.Ground.phase }, { on := 3, ground := Go.Ground.phase }, { on := 4, ground := Go.Ground.phase }, { on := 5, ground := Go.Ground.phase }, { on := 6, ground := Go.Ground.phase }, { on := 7, ground := Go.Ground.phase }, { on := 8, ground := Go.Ground.phase }], guard := none }) (v := ?_) rfl (by kernel_rfl) (by kernel_rfl) (by kernel_rfl) (fun _ _ _ h => h) (Or.inl ⟨by rfl, ?_⟩) (by assumption) ?_
      rotate_left 1
      · intro w' hSw; (go_simp <;> (with_reducible rfl))
      (try simp only [Act.put, List.setIfInBounds_toArray, List.set_cons_zero, List.set_cons_succ])
      refine wpAnyH_done (by kernel_rfl) ?_ _
      refine NoPanic.normal ?_
      go_wp2_with fail
      go_meet
      exact ⟨wd.heap.size, A5, c5, rfl, rfl, Lib.hid (Hr4.out.below Hb5.out), Lib.hid (Ho5.out.rd (be32_by hrs)), Lib.hid ⟨hk5, hm5⟩, Lib.hid (below_trans Hd2.out Hb5.out)⟩
    · 
      (try go_simp)
      refine (u32_lays none 0 0 [] rs _ hrs (by simp [maxLen]) (by omega) (Rd.nil _ _)).mono ?_
      rintro e w6 ⟨A5, c5, rfl, hk5, hm5, ho5, hb5⟩
      rw [List.nil_append, Nat.zero_add] at ho5
      rw [Nat.zero_add] at hk5
      have Ho5 := Lib.hid ho5
      have Hb5 := Lib.hid hb5
      refine hK.out _ _ ?_ (fun hHeld => ?_)
      · exact (HK.out _ (below_trans Hd.out Hb5.out)).1
      clear hK K ho5 hb5
      (try simp only [Act.put, List.setIfInBounds_toArray, List.set_cons_zero, List.set_cons_succ])
      refine wpAnyH_ready (rs := [4]) (by kernel_rfl) (by simp) ?_
      refine AllReadyH.cons (o := { dst := some 15, op := Go.Op.buildSlice 22 2 #[(0, Go.Operand.tmp 12), (1, Go.Operand.tmp 14)], type := 22, pos := "icmp.go:57", after := #[{ on := 1, ground := Go.Ground.data }, { on := 3, ground := Go.Ground.data }], guard := none }) rfl (fun K hK => ?_) AllReadyH.nil
      have hba := (Below.refl w6.heap.size w6).alloc (Nat.le_refl _) (.cells #[.int .u8 ty, .int .u8 cd] 5)
      have Hd2 := Lib.hid (below_trans (below_trans Hd.out Hb5.out) hba)
      have Hr4 := Lib.hid (Rd.const w6 [ty, cd] 5 (0, 0) Hbt.out)
      have Hr5 := Lib.hid ((Ho5.out.rd (be32_by hrs)).below hba)
      go_simp
      refine hK.out _ _ ?_ (fun hHeld => ?_)
      · exact (HK.out _ Hd2.out).1
      clear hK K
      (try simp only [Act.put, List.setIfInBounds_toArray, List.set_cons_zero, List.set_cons_succ])
      refine wpAnyH_take (i := 8) (oi := { dst := some 4, op := Go.Op.assign (Go.Operand.tmp 15), type := 22, pos := "icmp.go:57", after := #[{ on := 4, ground := Go.Ground.data }, { on := 7, ground := Go.Ground.chain }, { on := 0, ground := Go.Ground.phase }, { on := 1, ground := Go.Ground.phase }, { on := 2, ground := Go.Ground.phase }, { on := 3, ground := Go.Ground.phase }, { on := 4, ground := Go.Ground.phase }, { on := 5, ground := Go.Ground.textOnly Go.Departure.lateStores }, { on := 6, ground := Go.Ground.textOnly Go.Departure.lateStores }, { on := 7, ground := Go.Ground.textOnly Go.Departure.lateStoresUnsure }], guard := none }) (v := ?_) rfl (by kernel_rfl) (by kernel_rfl) (by kernel_rfl) (fun _ _ _ h => h) (Or.inl ⟨by rfl, ?_⟩) (by assumption) ?_
      rotate_left 1
      · intro w' hSw; (go_simp <;> (with_reducible rfl))
      (try simp only [Act.put, List.setIfInBounds_toArray, List.set_cons_zero, List.set_cons_succ])
      refine wpAnyH_take (i := 9) (oi := { dst := some 5, op := Go.Op.assign (Go.Operand.tmp 18), type := 22, pos := "icmp.go:57", after := #[{ on := 7, ground := Go.Ground.data }, { on := 8, ground := Go.Ground.chain }, { on := 0, ground := Go.Ground.phase }, { on := 1, ground := Go.Ground.phase }, { on := 2, ground := Go.Ground.phase }, { on := 3, ground := Go.Ground.phase }, { on := 4, ground := Go.Ground.phase }, { on := 5, ground := Go.Ground.phase }, { on := 6, ground := Go.Ground.phase }, { on := 7, ground := Go.Ground.phase }, { on := 8, ground := Go.Ground.phase }], guard := none }) (v := ?_) rfl (by kernel_rfl) (by kernel_rfl) (by kernel_rfl) (fun _ _ _ h => h) (Or.inl ⟨by rfl, ?_⟩) (by assumption) ?_
      rotate_left 1
      · intro w' hSw; (go_simp <;> (with_reducible rfl))
      (try simp only [Act.put, List.setIfInBounds_toArray, List.set_cons_zero, List.set_cons_succ])
      refine wpAnyH_done (by kernel_rfl) ?_ _
      refine NoPanic.normal ?_
      go_wp2_with fail
      go_meet
      exact ⟨w6.heap.size, A5, c5, rfl, rfl, Hr4, Hr5, Lib.hid ⟨hk5, hm5⟩, Hd2⟩
  case rest =>
    obtain ⟨g4, A5, c5, rfl, rfl, Hr4, Hr5, Hk5, HB⟩ := hcut
    obtain ⟨⟨c0, c1, c2, c3⟩, Hrd⟩ := HK.out _ HB.out
    have hk5 := Hk5.out.1
    have hm5 := Hk5.out.2
    have Hfd := Lib.hid (field_told (some ⟨wc.heap.size, 0, none⟩) 3 3 [headM ⟨ty, cd, rs, d⟩, be32 rs, d] _ f (by omega) (RdL.threeM wc _ rfl 22 (some ⟨g4, 0, none⟩) A5 A 2 2 4 c5 n c [ty, cd] (be32 rs) d (by simp [maxLen]) ⟨hk5, hm5⟩ Hc.out Hr4.out Hr5.out Hrd) Hfs.out)
    clear Hrd
    go_wp2_with fail
    refine Hfd.out.mono ?_
    rintro e w5 ⟨rfl, hb5⟩
    have hb5 := on_alloc hb5
    have Hr4 := Lib.hid (Hr4.out.below hb5)
    have Hr5 := Lib.hid (Hr5.out.below hb5)
    have HB := Lib.hid (below_trans HB.out hb5)
    clear c0 c1 c2 c3 hb5 Hfd
    go_wp2_with fail
    have Hbd := Lib.hid (Below.drew (Below.refl w5.heap.size w5))
    have HB6 := Lib.hid (below_trans HB.out Hbd.out)
    have Hr4 := Lib.hid (Hr4.out.below Hbd.out)
    have Hr5 := Lib.hid (Hr5.out.below Hbd.out)
    refine wp_region_held_drew (S := fun w' => (w'.cell? ⟨z, 0, none⟩ = some (.int .u8 ty) ∧ w'.cell? ⟨z, 1, none⟩ = some (.int .u8 cd) ∧ w'.cell? ⟨z, 2, none⟩ = some (.int .u32 rs) ∧ w'.cell? ⟨z, 3, none⟩ = some (.slice A n c))) (by kernel_rfl) (HK.out _ HB6.out).1 (fun hHeld => ?_)
    obtain ⟨wd, ewd⟩ : ∃ wd, w5.drew = wd := ⟨_, rfl⟩
    rw [ewd] at HB6 Hr4 Hr5 hHeld ⊢
    clear ewd Hbd HB
    refine wpAnyH_take (i := 0) (oi := { dst := some 25, op := Go.Op.move (Go.Operand.tmp 4), type := 22, pos := "icmp.go:60", after := #[], guard := none }) (v := ?_) rfl (by kernel_rfl) (by kernel_rfl) (by kernel_rfl) (fun _ _ _ h => h) (Or.inl ⟨by rfl, ?_⟩) (by assumption) ?_
    rotate_left 1
    · intro w' hSw; (go_simp <;> (with_reducible rfl))
    (try simp only [Act.put, List.setIfInBounds_toArray, List.set_cons_zero, List.set_cons_succ])
    refine wpAnyH_take (i := 1) (oi := { dst := some 26, op := Go.Op.move (Go.Operand.tmp 6), type := 23, pos := "icmp.go:60", after := #[], guard := none }) (v := ?_) rfl (by kernel_rfl) (by kernel_rfl) (by kernel_rfl) (fun _ _ _ h => h) (Or.inl ⟨by rfl, ?_⟩) (by assumption) ?_
    rotate_left 1
    · intro w' hSw; (go_simp <;> (with_reducible rfl))
    (try simp only [Act.put, List.setIfInBounds_toArray, List.set_cons_zero, List.set_cons_succ])
    refine wpAnyH_take (i := 3) (oi := { dst := some 28, op := Go.Op.move (Go.Operand.tmp 5), type := 22, pos := "icmp.go:60", after := #[], guard := none }) (v := ?_) rfl (by kernel_rfl) (by kernel_rfl) (by kernel_rfl) (fun _ _ _ h => h) (Or.inl ⟨by rfl, ?_⟩) (by assumption) ?_
    rotate_left 1
    · intro w' hSw; (go_simp <;> (with_reducible rfl))
    (try simp only [Act.put, List.setIfInBounds_toArray, List.set_cons_zero, List.set_cons_succ])
    refine wpAnyH_take (i := 4) (oi := { dst := some 29, op := Go.Op.fieldAddr 33 (Go.Operand.tmp 1) 3, type := 0, pos := "icmp.go:60", after := #[], guard := none }) (v := ?_) rfl (by kernel_rfl) (by kernel_rfl) (by kernel_rfl) (fun _ _ _ h => h) (Or.inl ⟨by rfl, ?_⟩) (by assumption) ?_
    rotate_left 1
    · intro w' hSw; (go_simp <;> (with_reducible rfl))
    (try simp only [Act.put, List.setIfInBounds_toArray, List.set_cons_zero, List.set_cons_succ])
    refine wpAnyH_take (i := 5) (oi := { dst := some 30, op := Go.Op.load 22 (Go.Operand.tmp 29), type := 22, pos := "icmp.go:60", after := #[{ on := 4, ground := Go.Ground.data }], guard := none }) (v := ?_) rfl (by kernel_rfl) (by kernel_rfl) (by kernel_rfl) (fun _ _ _ h => h) (Or.inl ⟨by rfl, ?_⟩) (by assumption) ?_
    rotate_left 1
    · intro w' hSw; (go_simp <;> (with_reducible rfl))
    (try simp only [Act.put, List.setIfInBounds_toArray, List.set_cons_zero, List.set_cons_succ])
    refine wpAnyH_ready (rs := [2]) (by kernel_rfl) (by simp) ?_
    refine AllReadyH.cons (o := { dst := some 27, op := Go.Op.call { callee := Go.Callee.value (Go.Operand.func 69), args := #[Go.Operand.const (Go.Value.slice none 0 0), Go.Operand.tmp 26], argTypes := #[22, 23] }, type := 22, pos := "icmp.go:60", after := #[{ on := 1, ground := Go.Ground.data }], guard := none }) rfl (fun K hK => ?_) AllReadyH.nil
    go_simp
    (refine (u16_lays none 0 0 [] f _ Hf.out (by simp [maxLen]) (by omega) (Rd.nil _ _)).mono ?_; rintro e w7 ⟨A7, c7, rfl, hk7, hm7, ho7, hb7⟩; rw [List.nil_append, Nat.zero_add] at ho7; have Hr7 := Lib.hid (ho7.rd (be16_by Hf.out)); have Hb7 := Lib.hid hb7; have HB7 := Lib.hid (below_trans HB6.out hb7); clear ho7 hb7)
    refine hK.out _ _ ?_ (fun hHeld => ?_)
    · exact (HK.out _ HB7.out).1
    clear hK K
    (try simp only [Act.put, List.setIfInBounds_toArray, List.set_cons_zero, List.set_cons_succ])
    refine wpAnyH_ready (rs := [6]) (by kernel_rfl) (by simp) ?_
    refine AllReadyH.cons (o := { dst := some 31, op := Go.Op.buildSlice 132 4 #[(0, Go.Operand.tmp 25), (1, Go.Operand.tmp 27), (2, Go.Operand.tmp 28), (3, Go.Operand.tmp 30)], type := 132, pos := "icmp.go:60", after := #[{ on := 0, ground := Go.Ground.data }, { on := 2, ground := Go.Ground.data }, { on := 3, ground := Go.Ground.data }, { on := 5, ground := Go.Ground.data }], guard := none }) rfl (fun K hK => ?_) AllReadyH.nil
    go_simp
    skip
    refine hK.out _ _ ?_ (fun hHeld => ?_)
    · exact (HK.out _ (HB7.out.alloc HB7.out.size _)).1
    clear hK K
    (try simp only [Act.put, List.setIfInBounds_toArray, List.set_cons_zero, List.set_cons_succ])
    refine wpAnyH_ready (rs := [7]) (by kernel_rfl) (by simp) ?_
    refine AllReadyH.cons (o := { dst := some 32, op := Go.Op.call { callee := Go.Callee.value (Go.Operand.func 68), args := #[Go.Operand.tmp 31], argTypes := #[132] }, type := 22, pos := "icmp.go:60", after := #[{ on := 6, ground := Go.Ground.data }, { on := 2, ground := Go.Ground.chain }], guard := none }) rfl (fun K hK => ?_) AllReadyH.nil
    go_simp
    (refine (concat_any (some ⟨w7.heap.size, 0, none⟩) 4 4 [headM ⟨ty, cd, rs, d⟩, be16 f, be32 rs, d] _ (by omega) (RdL.fourM w7 _ rfl 22 (some ⟨g4, 0, none⟩) A7 A5 A 2 2 2 c7 4 c5 n c [ty, cd] (be16 f) (be32 rs) d (by simp [maxLen]) ⟨hk7, hm7⟩ ⟨hk5, hm5⟩ Hc.out (Hr4.out.below Hb7.out) Hr7.out (Hr5.out.below Hb7.out) (HK.out _ HB7.out).2) (by have := Hln.out; simp [headM, be16, be32]; omega)).mono ?_; intro e w8 h8; rw [flat_msgB ⟨ty, cd, rs, d⟩ f Hef.out, Hlm.out] at h8; obtain ⟨A8, c8, rfl, hk8, hm8, ho8, hb8⟩ := h8; have Ho8 := Lib.hid ho8; have HB8 := Lib.hid (below_trans HB7.out (on_alloc hb8)); clear ho8 hb8)
    refine hK.out _ _ ?_ (fun hHeld => ?_)
    · exact (HK.out _ HB8.out).1
    clear hK K
    (try simp only [Act.put, List.setIfInBounds_toArray, List.set_cons_zero, List.set_cons_succ])
    refine wpAnyH_take (i := 8) (oi := { dst := some 2, op := Go.Op.assign (Go.Operand.tmp 32), type := 22, pos := "icmp.go:60", after := #[{ on := 7, ground := Go.Ground.data }, { on := 7, ground := Go.Ground.chain }, { on := 0, ground := Go.Ground.phase }, { on := 1, ground := Go.Ground.phase }, { on := 2, ground := Go.Ground.phase }, { on := 3, ground := Go.Ground.phase }, { on := 4, ground := Go.Ground.phase }, { on := 5, ground := Go.Ground.phase }, { on := 6, ground := Go.Ground.phase }, { on := 7, ground := Go.Ground.phase }], guard := none }) (v := ?_) rfl (by kernel_rfl) (by kernel_rfl) (by kernel_rfl) (fun _ _ _ h => h) (Or.inl ⟨by rfl, ?_⟩) (by assumption) ?_
    rotate_left 1
    · intro w' hSw; (go_simp <;> (with_reducible rfl))
    (try simp only [Act.put, List.setIfInBounds_toArray, List.set_cons_zero, List.set_cons_succ])
    refine wpAnyH_take (i := 9) (oi := { dst := some 3, op := Go.Op.assign (Go.Operand.const (Go.Value.int Go.IntKind.i64 0)), type := 36, pos := "icmp.go:60", after := #[{ on := 8, ground := Go.Ground.chain }, { on := 0, ground := Go.Ground.phase }, { on := 1, ground := Go.Ground.phase }, { on := 2, ground := Go.Ground.phase }, { on := 3, ground := Go.Ground.phase }, { on := 4, ground := Go.Ground.phase }, { on := 5, ground := Go.Ground.phase }, { on := 6, ground := Go.Ground.phase }, { on := 7, ground := Go.Ground.phase }, { on := 8, ground := Go.Ground.phase }], guard := none }) (v := ?_) rfl (by kernel_rfl) (by kernel_rfl) (by kernel_rfl) (fun _ _ _ h => h) (Or.inl ⟨by rfl, ?_⟩) (by assumption) ?_
    rotate_left 1
    · intro w' hSw; (go_simp <;> (with_reducible rfl))
    (try simp only [Act.put, List.setIfInBounds_toArray, List.set_cons_zero, List.set_cons_succ])
    refine wpAnyH_done (by kernel_rfl) ?_ _
    have Hbb := Lib.hid (below_trans Hb0.out HB8.out)
    have Hs7 := Lib.hid (show w.heap.size ≤ w7.heap.size from Nat.le_trans Hb0.out.size HB7.out.size)
    clear Hr4 Hr5 Hr7 HB6 HB7 hHeld
    go_wp2_with fail
    go_ret2
    exact ⟨A8, c8, rfl, hk8, hm8, Ho8.out.mono (by have := Hs7.out; simp; omega), Hbb.out⟩
theorem put8_any (s : Msg) (A : Option Addr) (n c : Nat) (w : World) (L : List Int) (m : Nat) (x : Int) (hnum : MsgNum s) (hc : n ≤ c ∧ c ≤ maxLen) (hr : Rd w A n s.d) (hx : errP s = x) (hL : toldM s = L) (hm : L.length = m) :
    Calls Tryz.prog 65 #[.agg #[.int .u8 s.ty, .int .u8 s.cd, .int .u32 s.rs, .slice A n c]] w (PutM L m x w) := by
  have hl := hr.len
  unfold errP at hx
  unfold toldM at hL
  rw [hl] at hx hL
  by_cases h : 1472 < n
  · rw [if_pos h] at hx hL
    subst hx; subst hL; subst hm
    exact put8_bad s.ty s.cd s.rs A n c w h
  · rw [if_neg h] at hx hL
    subst hx; subst hL
    rw [← hm, msgB_len, hl]
    exact put8_ok s A n c w hnum hc hr (by omega)
end Go.Proofs.YtheknmihnkennaaGreat
