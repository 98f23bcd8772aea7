/-
  Texts laid together: IcmpRefPut, IcmpRefRead, BytesEq, IcmpAsk.
-/
import Derived.Test.YtkooehejdfaekaaGreatZP04
import Derived.Test.YtkooehejdfaekaaGreatZP01
import Derived.Test.YtkooehejdfaekaaGreatZP08
import Derived.Lib.Hide
import Derived.Outline
import Derived.Test.YtkooehejdfaekaaGreatZP02
import Derived.RegionTactic

/-
  The document's own answers for messages (culvertref08): Put, Exceeded.
-/
namespace Go.Proofs.YtkooehejdfaekaaGreat
set_option maxRecDepth 10000
open Go.RowKit

/-- A literal's row. -/
theorem own_lit (w : World) (B : Nat) (C : Array Value) (l : List Int) (n : Nat) (hB : B ≤ w.heap.size) (hC : C.toList = l.map (Value.int .u8)) (hn : l.length = n) (hm : n ≤ 1000) : OwnB (w.alloc (.cells C 5)) B (some ⟨w.heap.size, 0, none⟩) n n l := by
  subst hn
  have hs : C.size = l.length := by rw [← Array.length_toList, hC, List.length_map]
  refine ⟨by simp, .inr ⟨w.heap.size, l.length, _, rfl, hB, heap_alloc_new w _, Nat.le_refl _, by unfold maxLen; omega, by omega, ?_⟩⟩
  rw [hC]
  exact (List.take_of_length_le (by simp))
/-- One byte's address in a row of the call's own. -/
theorem ownM_ix {w : World} {B g n c : Nat} {l : List Int} (h : OwnB w B (some ⟨g, 0, none⟩) n c l) (j : Nat) (ji : Int) (hj : j < n) (he : ji = (j : Int)) :
    (∀ W : World, (Instr.indexAt 24 (.slice (some ⟨g, 0, none⟩) n c) (.int .i64 ji)).run Tryz.prog W = .ok (.pointer (some ⟨g, j, none⟩)) W) ∧ w.cell? ⟨g, j, none⟩ = some (.int .u8 (l.getD j 0)) ∧ w.frozen? ⟨g, j, none⟩ = false := by
  subst he
  have h0 : (0 : Int) ≤ (j : Int) := by omega
  have h1 : (j : Int) < (n : Int) := by omega
  exact ⟨fun W => by go_simp, h.cell j hj, World.ownsRow.frozenAt h j⟩
/-- Put tells the row L and x. -/
def PutM (L : List Int) (m : Nat) (x : Int) (w : World) (e : Ending) (w' : World) : Prop := ∃ A c, e = .returned (.tuple #[.slice A m c, .int .i64 x]) ∧ m ≤ c ∧ c ≤ maxLen ∧ OwnB w' w.heap.size A m c L ∧ Below w.heap.size w w'
def errP (s : Msg) : Int := if 1472 < s.d.length then 3 else 0
def toldM (s : Msg) : List Int := if 1472 < s.d.length then [] else msgB s
theorem rput8_bad (ty cd rs : Int) (A : Option Addr) (n c : Nat) (w : World) (hn : 1472 < n) :
    Calls Tryz.prog 22 #[.agg #[.int .u8 ty, .int .u8 cd, .int .u32 rs, .slice A n c]] w (PutM [] 0 3 w) := by
  have hni : (1472 : Int) < (n : Int) := by omega
  have Hb := Lib.hid ((Below.refl w.heap.size w).alloc (Nat.le_refl _) (.cells #[.int .u8 ty, .int .u8 cd, .int .u32 rs, .slice A n c] 33))
  go_enter Tryz.func22, Tryz.ntmps22
  go_wp2_with fail
  go_ret2
  exact ⟨none, 0, rfl, Nat.le_refl _, by simp [maxLen], OwnB.nil _ _, Hb.out⟩
theorem rput8_ok (s : Msg) (A : Option Addr) (n c : Nat) (w : World) (hnum : MsgNum s) (hr : Rd w A n s.d) (hn : n ≤ 1472) :
    Calls Tryz.prog 22 #[.agg #[.int .u8 s.ty, .int .u8 s.cd, .int .u32 s.rs, .slice A n c]] w (PutM (msgB s) (8 + n) 0 w) := by
  have hf := fieldM_bd s
  obtain ⟨f, ef⟩ : ∃ f, fieldM s = f := ⟨_, rfl⟩
  have hLf : msgB s = headM s ++ (be16 f ++ tailM s) := by unfold msgB; rw [ef]
  have hL0 : headM s ++ (be16 0 ++ tailM s) = [s.ty, s.cd, 0, 0, s.rs / 16777216, s.rs / 65536 % 256, s.rs / 256 % 256, s.rs % 256] ++ s.d := by simp [headM, tailM, be16, be32]
  have hbl := laidM_by hnum hr.byte (f := 0) (by omega)
  have hfs : 65535 - sumL (headM s ++ (be16 0 ++ tailM s)) = f := ef
  obtain ⟨L0, eL0⟩ : ∃ L, headM s ++ (be16 0 ++ tailM s) = L := ⟨_, rfl⟩
  rw [eL0] at hL0 hbl hfs
  have hset : (L0.set 2 (f / 256)).set 3 (f % 256) = msgB s := by
    rw [hLf, ← eL0]; simp [headM, tailM, be16, be32]
  rw [ef] at hf
  obtain ⟨ty, cd, rs, d⟩ := s
  have ht := hnum.ty
  have hcd := hnum.cd
  have hrs := hnum.rs
  simp only at hr hL0 ht hcd hrs ⊢
  obtain ⟨z, hz⟩ : ∃ z, w.heap.size = z := ⟨_, rfl⟩
  obtain ⟨w0, ew⟩ : ∃ w0, w.alloc (.cells #[.int .u8 ty, .int .u8 cd, .int .u32 rs, .slice A n c] 33) = w0 := ⟨_, rfl⟩
  have hb0 : Below w.heap.size w w0 := by rw [← ew]; exact (Below.refl _ _).alloc (Nat.le_refl _) _
  have hk : w0.heap[z]? = some (.cells #[.int .u8 ty, .int .u8 cd, .int .u32 rs, .slice A n c] 33 (0, 0)) := by rw [← ew, ← hz]; exact heap_alloc_new w _
  have HK := Lib.hid (show ∀ w', Below w0.heap.size w0 w' → (w'.cell? ⟨z, 0, none⟩ = some (.int .u8 ty) ∧ w'.cell? ⟨z, 1, none⟩ = some (.int .u8 cd) ∧ w'.cell? ⟨z, 2, none⟩ = some (.int .u32 rs) ∧ w'.cell? ⟨z, 3, none⟩ = some (.slice A n c)) ∧ Rd w' A n d from fun w' hb => ⟨cells4 (blk_on hk hb), (hr.below hb0).below hb⟩)
  have Hb0 := Lib.hid hb0
  have Hew := Lib.hid ew
  have HL0 := Lib.hid hL0
  have Hbl := Lib.hid hbl
  have Hset := Lib.hid hset
  have Hfs := Lib.hid hfs
  have hni : ¬ (1472 : Int) < (n : Int) := by omega
  have hn2 : (n : Int) ≤ 1472 := by omega
  have hq1 : IntKind.u8.wrap (rs / 16777216) = rs / 16777216 := by (simp [IntKind.wrap, IntKind.bits, IntKind.signed] <;> omega)
  have hq2 : IntKind.u8.wrap (rs / 65536) = rs / 65536 % 256 := by (simp [IntKind.wrap, IntKind.bits, IntKind.signed] <;> omega)
  have hq3 : IntKind.u8.wrap (rs / 256) = rs / 256 % 256 := by (simp [IntKind.wrap, IntKind.bits, IntKind.signed] <;> omega)
  have hq4 : IntKind.u8.wrap rs = rs % 256 := by (simp [IntKind.wrap, IntKind.bits, IntKind.signed] <;> omega)
  obtain ⟨⟨c0, c1, c2, c3⟩, _⟩ := HK.out w0 (Below.refl _ _)
  clear hk hb0 ew hr hL0 hbl hset hfs eL0 hLf ef hnum ht hcd
  go_enter Tryz.func22, Tryz.ntmps22
  go_upto_region 1 with (fail)
  rw [Hew.out]
  go_upto_region 4 with (fail)
  have HE := Lib.hid (own_lit w0 w0.heap.size #[.int .u8 ty, .int .u8 cd, .int .u8 0, .int .u8 0, .int .u8 (rs / 16777216), .int .u8 (rs / 65536 % 256), .int .u8 (rs / 256 % 256), .int .u8 (rs % 256)] [ty, cd, 0, 0, rs / 16777216, rs / 65536 % 256, rs / 256 % 256, rs % 256] 8 (Nat.le_refl _) rfl rfl (by omega))
  have hbA : Below w0.heap.size w0 (w0.alloc (.cells #[.int .u8 ty, .int .u8 cd, .int .u8 0, .int .u8 0, .int .u8 (rs / 16777216), .int .u8 (rs / 65536 % 256), .int .u8 (rs / 256 % 256), .int .u8 (rs % 256)] 5)) := (Below.refl _ _).alloc (Nat.le_refl _) _
  have HbA := Lib.hid hbA
  have HrA := Lib.hid (HK.out _ hbA).2
  obtain ⟨⟨a0, a1, a2, a3⟩, _⟩ := HK.out _ hbA
  have hsA : w0.heap.size ≤ (w0.alloc (.cells #[.int .u8 ty, .int .u8 cd, .int .u8 0, .int .u8 0, .int .u8 (rs / 16777216), .int .u8 (rs / 65536 % 256), .int .u8 (rs / 256 % 256), .int .u8 (rs % 256)] 5)).heap.size := hbA.size
  clear hbA c0 c1 c2 c3
  go_upto_region 5 with (refine wpList_app rfl (.tmp 30) (.tmp 32) rfl w0.heap.size (some ⟨w0.heap.size, 0, none⟩) A 8 8 n c [ty, cd, 0, 0, rs / 16777216, rs / 65536 % 256, rs / 256 % 256, rs % 256] d rfl rfl HE.out HrA.out (by omega) hsA ?_; intro A1 k1 w1 ho1 hg1 hb1 hat1)
  rw [← HL0.out] at ho1
  have hrow := ho1.rd Hbl.out
  have Hb := Lib.hid (HbA.out.trans hb1)
  obtain ⟨g, rfl, hgB, hgw⟩ := ho1.addr (by omega)
  have hm : 8 + n ≤ k1 := ho1.cap
  have hm2 : k1 ≤ maxLen := ho1.capMax
  have Hm := Lib.hid (And.intro hm hm2)
  have Ho := Lib.hid ho1
  have HF := Lib.hid (rfield_any (some ⟨g, 0, none⟩) (8 + n) k1 L0 w1 (by omega) hrow)
  rw [Hfs.out] at HF
  obtain ⟨i2, d2, f2⟩ := ownM_ix ho1 2 2 (by omega) rfl
  obtain ⟨i3, d3, f3⟩ := ownM_ix ho1 3 3 (by omega) rfl
  obtain ⟨y2, ey2⟩ : ∃ y, L0.getD 2 0 = y := ⟨_, rfl⟩
  obtain ⟨y3, ey3⟩ : ∃ y, L0.getD 3 0 = y := ⟨_, rfl⟩
  rw [ey2] at d2
  rw [ey3] at d3
  have hv0 : Int.tdiv f 256 = f / 256 := Int.tdiv_eq_ediv_of_nonneg hf.1
  have hv1 : Int.tmod f 256 = f % 256 := Int.tmod_eq_emod_of_nonneg hf.1
  have hv2 : IntKind.u16.wrap (f / 256) = f / 256 := by (simp [IntKind.wrap, IntKind.bits, IntKind.signed] <;> omega)
  have hv3 : IntKind.u8.wrap (f / 256) = f / 256 := by (simp [IntKind.wrap, IntKind.bits, IntKind.signed] <;> omega)
  have hv4 : IntKind.u16.wrap (f % 256) = f % 256 := by (simp [IntKind.wrap, IntKind.bits, IntKind.signed] <;> omega)
  have hv5 : IntKind.u8.wrap (f % 256) = f % 256 := by (simp [IntKind.wrap, IntKind.bits, IntKind.signed] <;> omega)
  have Hgb := Lib.hid hgB
  have hmi : (8 : Int) + (n : Int) ≤ (k1 : Int) := by omega
  clear ho1 hg1 hb1 hat1 hrow HE HrA hsA a0 a1 a2 a3 ey2 ey3 hm hm2 hgB hgw hf
  try simp only [Nat.zero_add]
  go_wp2_with fail
  refine HF.out.mono ?_
  rintro e w2 ⟨rfl, rfl⟩
  go_wp2_with fail
  go_ret2
  exact ⟨some ⟨g, 0, none⟩, k1, rfl, Hm.out.1, Hm.out.2, by rw [← Hset.out]; exact ((Ho.out.set_ 2 (f / 256)).set_ 3 (f % 256)).mono Hb0.out.size, (((below_trans Hb0.out Hb.out).setCell (by have := Hgb.out; have := Hb0.out.size; simp <;> omega) _).setCell (by have := Hgb.out; have := Hb0.out.size; simp <;> omega) _)⟩
theorem rput8_any (s : Msg) (A : Option Addr) (n c : Nat) (w : World) (L : List Int) (m : Nat) (x : Int) (hnum : MsgNum s) (hr : Rd w A n s.d) (hx : errP s = x) (hL : toldM s = L) (hm : L.length = m) :
    Calls Tryz.prog 22 #[.agg #[.int .u8 s.ty, .int .u8 s.cd, .int .u32 s.rs, .slice A n c]] w (PutM L m x w) := by
  have hl := hr.len
  unfold errP at hx
  unfold toldM at hL
  rw [hl] at hx hL
  by_cases h : 1472 < n
  · rw [if_pos h] at hx hL
    subst hx; subst hL; subst hm
    exact rput8_bad s.ty s.cd s.rs A n c w h
  · rw [if_neg h] at hx hL
    subst hx; subst hL
    rw [← hm, msgB_len, hl]
    exact rput8_ok s A n c w hnum hr (by omega)
end Go.Proofs.YtkooehejdfaekaaGreat

/-
  The document's own answers for messages (culvertref08): Parse, Exceeded.
-/
namespace Go.Proofs.YtkooehejdfaekaaGreat
set_option maxRecDepth 10000
open Go.RowKit
set_option linter.unusedVariables false
set_option linter.unusedSimpArgs false

structure Pars (w : World) (z : Nat) (b0 b1 v : Int) (wr : World) : Prop where
  old : Below w.heap.size w wr
  res : wr.heap[z]? = some (.cells #[.int .u8 0, .int .u8 0, .int .u32 0, .slice none 0 0] 33 (0, 0))
  mine : wr.heap[z + 1]? = some (.cells #[.int .u8 b0, .int .u8 b1, .int .u32 v, .slice none 0 0] 33 (0, 0))
  size : wr.heap.size = z + 2
theorem Pars.step {w : World} {z : Nat} {b0 b1 v : Int} {wr : World} (h : Pars w z b0 b1 v wr) (hz : w.heap.size = z) (y : Int) : Pars w z b0 b1 y (wr.setCell ⟨z + 1, 2, none⟩ (.int .u32 y)) :=
  ⟨h.old.setCell (by simp <;> omega) _, other_blk h.res (by omega) _, set_cell4 h.mine _, by simpa using h.size⟩
theorem Pars.drew {w : World} {z : Nat} {b0 b1 v : Int} {wr : World} (h : Pars w z b0 b1 v wr) : Pars w z b0 b1 v wr.drew := ⟨h.old.drew, h.res, h.mine, h.size⟩
theorem own_store {w : World} {B p i : Nat} {A : Option Addr} {n c : Nat} {l : List Int} (h : OwnB w B A n c l) (hp : p < B) (v : Value) : OwnB (w.setCell ⟨p, i, none⟩ v) B A n c l :=
  h.but ((But.refl (fun k => k = p) _).setCell (p := ⟨p, i, none⟩) rfl v) (fun k hk e => by omega)
theorem set_cell4d {w : World} {q : Nat} {u0 u1 u2 u3 : Value} {t : TypeId} (h : w.heap[q]? = some (.cells #[u0, u1, u2, u3] t (0, 0))) (v : Value) : (w.setCell ⟨q, 3, none⟩ v).heap[q]? = some (.cells #[u0, u1, u2, v] t (0, 0)) := by
  simp [World.setCell, Array.getElem?_modify, h]
structure Overs (w : World) (z : Nat) (l : List Int) (j : Nat) (Aj : Option Addr) (cj : Nat) (wr : World) : Prop where
  old : Below w.heap.size w wr
  res : wr.heap[z]? = some (.cells #[.int .u8 0, .int .u8 0, .int .u32 0, .slice none 0 0] 33 (0, 0))
  mine : wr.heap[z + 1]? = some (.cells #[.int .u8 11, .int .u8 0, .int .u32 0, .slice Aj j cj] 33 (0, 0))
  row : OwnB wr (z + 2) Aj j cj (l.take j)
  size : z + 2 ≤ wr.heap.size
theorem Overs.drew {w : World} {z : Nat} {l : List Int} {j : Nat} {Aj : Option Addr} {cj : Nat} {wr : World} (h : Overs w z l j Aj cj wr) : Overs w z l j Aj cj wr.drew := ⟨h.old.drew, h.res, h.mine, h.row.on (Below.drew (Below.refl _ _)), h.size⟩
theorem Overs.step {w : World} {z : Nat} {l : List Int} {j : Nat} {Aj : Option Addr} {cj : Nat} {wr : World} (h : Overs w z l j Aj cj wr) (hz : w.heap.size = z) {w1 : World} {A1 : Option Addr} {c1 : Nat} (ho : OwnB w1 (z + 2) A1 (j + 1) c1 (l.take (j + 1))) (hb : Below (z + 2) wr w1) :
    Overs w z l (j + 1) A1 c1 (w1.setCell ⟨z + 1, 3, none⟩ (.slice A1 (j + 1) c1)) := by
  have hm : w1.heap[z + 1]? = some (.cells #[.int .u8 11, .int .u8 0, .int .u32 0, .slice Aj j cj] 33 (0, 0)) := (hb.block _ (by omega)).trans h.mine
  have hr : w1.heap[z]? = some (.cells #[.int .u8 0, .int .u8 0, .int .u32 0, .slice none 0 0] 33 (0, 0)) := (hb.block _ (by omega)).trans h.res
  refine ⟨(h.old.trans (hb.mono (by omega))).setCell (p := ⟨z + 1, 3, none⟩) (by simp <;> omega) _, other_blk hr (by omega) _, set_cell4d hm _, own_store ho (by omega) _, ?_⟩
  have := hb.size
  have := h.size
  simp <;> omega

end Go.Proofs.YtkooehejdfaekaaGreat

/-
  The contract of bytes.Equal (for the stages that do not need the options'): over bytes that read as lists.
-/
namespace Go.Proofs.YtkooehejdfaekaaGreat
set_option maxRecDepth 10000
open Go.RowKit

theorem strs_eqB (a b : List Int) (ha : ∀ x ∈ a, 0 ≤ x ∧ x < 256) (hb : ∀ x ∈ b, 0 ≤ x ∧ x < 256) : ((strOfNums a).toList == (strOfNums b).toList) = decide (a = b) := by
  rw [ByteArray.toList_eq, ByteArray.toList_eq]
  by_cases e : a = b
  · subst e; simp
  · rw [beq_eq_false_iff_ne.2 (fun x => e (nums_inj _ _ ha hb (by simpa [strOfNums_data] using x)))]
    simp [e]
theorem bequal_any (A A' : Option Addr) (n n' c c' : Nat) (l l' : List Int) (w : World) (x : Bool) (h : Rd w A n l) (h' : Rd w A' n' l') (hx : decide (l = l') = x) :
    Calls Tryz.prog 9 #[.slice A n c, .slice A' n' c'] w fun e w' => e = .returned (.bool x) ∧ w = w' := by
  have h1 := conv_rd h c
  have h2 := conv_rd h' c'
  have Hd := Lib.hid ((strs_eqB l l' h.byte h'.byte).trans hx)
  clear h h' hx
  go_enter Tryz.func9, Tryz.ntmps9
  go_wp2
  go_ret
  exact ⟨ret_bool (Hd.out), rfl⟩
end Go.Proofs.YtkooehejdfaekaaGreat

/-
  The contracts of package icmp's Echo, WithId, Exceeded, Same; of bytes.Clone of any slice.
-/
namespace Go.Proofs.YtkooehejdfaekaaGreat
set_option maxRecDepth 10000
open Go.RowKit
set_option linter.unusedSimpArgs false
set_option linter.unusedVariables false

theorem bclone_all (A : Option Addr) (n c : Nat) (l : List Int) (w : World) (hn : n ≤ 140737488355328) (h : Rd w A n l) :
    Calls Tryz.prog 37 #[.slice A n c] w (RowIs n l w) := by
  have hnil : ∀ W : World, (binOp .eql 24 (.slice A n c) (.slice none 0 0)).run Tryz.prog W = .ok (.bool A.isNone) W := fun W => Lib.run_eql_slice_nil W _ _ A n c 0 0 Tryz.underlying24
  cases A with
  | none =>
    obtain rfl : n = 0 := by
      rcases Nat.eq_zero_or_pos n with h0 | h0
      · exact h0
      · obtain ⟨b, o, e, _⟩ := h.at_ h0; cases e
    have hl : l = [] := List.eq_nil_of_length_eq_zero h.len
    subst hl
    have Ho := Lib.hid (OwnB.nil w w.heap.size)
    clear h
    go_enter Tryz.func37, Tryz.ntmps37
    go_wp2_with fail
    go_ret
    exact ⟨none, 0, rfl, Nat.le_refl _, by simp [maxLen], Ho.out, Below.refl _ _⟩
  | some a =>
    have hb := (Below.refl w.heap.size w).alloc (Nat.le_refl _) (.cells #[] 5)
    have Ho := Lib.hid (OwnB.made (w := w.alloc (.cells #[] 5)) (B := w.heap.size) (g := w.heap.size) (cap := 0) (cur := #[]) (heap_alloc_new w _) (Nat.le_refl _) (by simp [maxLen]) rfl)
    have Hr := Lib.hid (h.below hb)
    have Hb := Lib.hid hb
    clear h hb
    go_enter Tryz.func37, Tryz.ntmps37
    go_wp2_with (refine wpList_app rfl (.tmp 5) (.tmp 6) rfl w.heap.size (some ⟨w.heap.size, 0, none⟩) (some a) 0 0 n c [] l rfl rfl Ho.out Hr.out (by omega) (by simp) ?_; intro A2 c2 w2 hown2 _ hb2 _)
    go_ret
    have h2 := hown2
    rw [Nat.zero_add, List.nil_append] at h2
    exact ⟨A2, c2, by simp, h2.cap, h2.capMax, h2, Hb.out.trans hb2⟩

theorem same8_any (s t : Msg) (A : Option Addr) (n c : Nat) (A' : Option Addr) (n' c' : Nat) (w : World) (x : Bool) (h : Rd w A n s.d) (h' : Rd w A' n' t.d) (hx : msgSame s t = x) :
    Calls Tryz.prog 29 #[.agg #[.int .u8 s.ty, .int .u8 s.cd, .int .u32 s.rs, .slice A n c], .agg #[.int .u8 t.ty, .int .u8 t.cd, .int .u32 t.rs, .slice A' n' c']] w (BoolIs x w) := by
  obtain ⟨ty, cd, rs, d⟩ := s
  obtain ⟨ty', cd', rs', d'⟩ := t
  simp only at h h' ⊢
  have hb := ((Below.refl w.heap.size w).alloc (Nat.le_refl _) (.cells #[.int .u8 ty, .int .u8 cd, .int .u32 rs, .slice A n c] 33)).alloc (by simp) (.cells #[.int .u8 ty', .int .u8 cd', .int .u32 rs', .slice A' n' c'] 33)
  have H1 := Lib.hid (h.below hb)
  have H2 := Lib.hid (h'.below hb)
  have Hb := Lib.hid hb
  clear h h' hb
  unfold msgSame at hx
  simp only at hx
  by_cases h1 : ty = ty'
  case neg =>
    have h1b : (ty == ty') = false := by simpa using h1
    have Hx := Lib.hid (show x = false by rw [← hx]; simp [h1])
    clear hx h1
    go_enter Tryz.func29, Tryz.ntmps29
    go_wp2_with fail
    go_ret
    exact ⟨ret_bool (by rw [Hx.out]), Hb.out⟩
  subst h1
  by_cases h2 : cd = cd'
  case neg =>
    have h2b : (cd == cd') = false := by simpa using h2
    have Hx := Lib.hid (show x = false by rw [← hx]; simp [h2])
    clear hx h2
    go_enter Tryz.func29, Tryz.ntmps29
    go_wp2_with fail
    go_ret
    exact ⟨ret_bool (by rw [Hx.out]), Hb.out⟩
  subst h2
  by_cases h3 : rs = rs'
  case neg =>
    have h3b : (rs == rs') = false := by simpa using h3
    have Hx := Lib.hid (show x = false by rw [← hx]; simp [h3])
    clear hx h3
    go_enter Tryz.func29, Tryz.ntmps29
    go_wp2_with fail
    go_ret
    exact ⟨ret_bool (by rw [Hx.out]), Hb.out⟩
  subst h3
  have Hx := Lib.hid (show decide (d = d') = x by simpa using hx)
  clear hx
  go_enter Tryz.func29, Tryz.ntmps29
  go_wp2_with fail
  refine (bequal_any A A' n n' c c' d d' _ x H1.out H2.out Hx.out).mono ?_
  rintro e w' ⟨rfl, rfl⟩
  go_wp2_with fail
  go_ret
  exact ⟨rfl, Hb.out⟩
end Go.Proofs.YtkooehejdfaekaaGreat
