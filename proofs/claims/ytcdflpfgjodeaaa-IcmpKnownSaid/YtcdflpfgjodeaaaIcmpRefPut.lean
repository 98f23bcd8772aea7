/-
  The document's own answers for messages (culvertref08): Put, Exceeded.
-/
import Derived.Test.YtcdflpfgjodeaaaIcmpRef
import Derived.Test.YtcdflpfgjodeaaaOwnRow
namespace Go.Proofs.Ytcdflpfgjodeaaa
set_option maxRecDepth 10000
open Go.RowKit

/-- A literal's row. -/
theorem own_lit (w : World) (B : Nat) (C : Array Value) (l : List Int) (n : Nat) (hB : B ≤ w.heap.size) (hC : C.toList = l.map (Value.int .u8)) (hn : l.length = n) (hm : n ≤ 1000) : OwnB (w.alloc (.cells C 5)) B (some ⟨w.heap.size, 0, none⟩) n n l := by
  subst hn
  have hs : C.size = l.length := by rw [← Array.length_toList, hC, List.length_map]
  refine ⟨by simp, .inr ⟨w.heap.size, l.length, _, rfl, hB, heap_alloc_new w _, Nat.le_refl _, by unfold maxLen; omega, by omega, ?_⟩⟩
  rw [hC]
  exact (List.take_of_length_le (by simp))
/-- One byte's address in a row of the call's own. -/
theorem ownM_ix {w : World} {B g n c : Nat} {l : List Int} (h : OwnB w B (some ⟨g, 0, none⟩) n c l) (j : Nat) (ji : Int) (hj : j < n) (he : ji = (j : Int)) :
    (∀ W : World, (Instr.indexAt 23 (.slice (some ⟨g, 0, none⟩) n c) (.int .i64 ji)).run Try.prog W = .ok (.pointer (some ⟨g, j, none⟩)) W) ∧ w.cell? ⟨g, j, none⟩ = some (.int .u8 (l.getD j 0)) ∧ w.frozen? ⟨g, j, none⟩ = false := by
  subst he
  have h0 : (0 : Int) ≤ (j : Int) := by omega
  have h1 : (j : Int) < (n : Int) := by omega
  exact ⟨fun W => by go_simp, h.cell j hj, World.ownsRow.frozenAt h j⟩
/-- Put tells the row L and x. -/
def PutM (L : List Int) (m : Nat) (x : Int) (w : World) (e : Ending) (w' : World) : Prop := ∃ A c, e = .returned (.tuple #[.slice A m c, .int .i64 x]) ∧ m ≤ c ∧ c ≤ maxLen ∧ OwnB w' w.heap.size A m c L ∧ Below w.heap.size w w'
def errP (s : Msg) : Int := if 1472 < s.d.length then 3 else 0
def toldM (s : Msg) : List Int := if 1472 < s.d.length then [] else msgB s
theorem rput8_bad (ty cd rs : Int) (A : Option Addr) (n c : Nat) (w : World) (hn : 1472 < n) :
    Calls Try.prog 8 #[.agg #[.int .u8 ty, .int .u8 cd, .int .u32 rs, .slice A n c]] w (PutM [] 0 3 w) := by
  have hni : (1472 : Int) < (n : Int) := by omega
  have Hb := Lib.hid ((Below.refl w.heap.size w).alloc (Nat.le_refl _) (.cells #[.int .u8 ty, .int .u8 cd, .int .u32 rs, .slice A n c] 25))
  go_enter Try.func8, Try.ntmps8
  go_wp2_with fail
  go_ret2
  exact ⟨none, 0, rfl, Nat.le_refl _, by simp [maxLen], OwnB.nil _ _, Hb.out⟩
theorem rput8_ok (s : Msg) (A : Option Addr) (n c : Nat) (w : World) (hnum : MsgNum s) (hr : Rd w A n s.d) (hn : n ≤ 1472) :
    Calls Try.prog 8 #[.agg #[.int .u8 s.ty, .int .u8 s.cd, .int .u32 s.rs, .slice A n c]] w (PutM (msgB s) (8 + n) 0 w) := by
  have hf := fieldM_bd s
  obtain ⟨f, ef⟩ : ∃ f, fieldM s = f := ⟨_, rfl⟩
  have hLf : msgB s = headM s ++ (be16 f ++ tailM s) := by unfold msgB; rw [ef]
  have hL0 : headM s ++ (be16 0 ++ tailM s) = [s.ty, s.cd, 0, 0, s.rs / 16777216, s.rs / 65536 % 256, s.rs / 256 % 256, s.rs % 256] ++ s.d := by simp [headM, tailM, be16, be32]
  have hbl := laidM_by hnum hr.byte (f := 0) (by omega)
  have hfs : 65535 - sumL (headM s ++ (be16 0 ++ tailM s)) = f := ef
  obtain ⟨L0, eL0⟩ : ∃ L, headM s ++ (be16 0 ++ tailM s) = L := ⟨_, rfl⟩
  rw [eL0] at hL0 hbl hfs
  have hset : (L0.set 2 (f / 256)).set 3 (f % 256) = msgB s := by
    rw [hLf, ← eL0]; simp [headM, tailM, be16, be32]
  rw [ef] at hf
  obtain ⟨ty, cd, rs, d⟩ := s
  have ht := hnum.ty
  have hcd := hnum.cd
  have hrs := hnum.rs
  simp only at hr hL0 ht hcd hrs ⊢
  obtain ⟨z, hz⟩ : ∃ z, w.heap.size = z := ⟨_, rfl⟩
  obtain ⟨w0, ew⟩ : ∃ w0, w.alloc (.cells #[.int .u8 ty, .int .u8 cd, .int .u32 rs, .slice A n c] 25) = w0 := ⟨_, rfl⟩
  have hb0 : Below w.heap.size w w0 := by rw [← ew]; exact (Below.refl _ _).alloc (Nat.le_refl _) _
  have hk : w0.heap[z]? = some (.cells #[.int .u8 ty, .int .u8 cd, .int .u32 rs, .slice A n c] 25 (0, 0)) := by rw [← ew, ← hz]; exact heap_alloc_new w _
  have HK := Lib.hid (show ∀ w', Below w0.heap.size w0 w' → (w'.cell? ⟨z, 0, none⟩ = some (.int .u8 ty) ∧ w'.cell? ⟨z, 1, none⟩ = some (.int .u8 cd) ∧ w'.cell? ⟨z, 2, none⟩ = some (.int .u32 rs) ∧ w'.cell? ⟨z, 3, none⟩ = some (.slice A n c)) ∧ Rd w' A n d from fun w' hb => ⟨cells4 (blk_on hk hb), (hr.below hb0).below hb⟩)
  have Hb0 := Lib.hid hb0
  have Hew := Lib.hid ew
  have HL0 := Lib.hid hL0
  have Hbl := Lib.hid hbl
  have Hset := Lib.hid hset
  have Hfs := Lib.hid hfs
  have hni : ¬ (1472 : Int) < (n : Int) := by omega
  have hn2 : (n : Int) ≤ 1472 := by omega
  have hq1 : IntKind.u8.wrap (rs / 16777216) = rs / 16777216 := by (simp [IntKind.wrap, IntKind.bits, IntKind.signed] <;> omega)
  have hq2 : IntKind.u8.wrap (rs / 65536) = rs / 65536 % 256 := by (simp [IntKind.wrap, IntKind.bits, IntKind.signed] <;> omega)
  have hq3 : IntKind.u8.wrap (rs / 256) = rs / 256 % 256 := by (simp [IntKind.wrap, IntKind.bits, IntKind.signed] <;> omega)
  have hq4 : IntKind.u8.wrap rs = rs % 256 := by (simp [IntKind.wrap, IntKind.bits, IntKind.signed] <;> omega)
  obtain ⟨⟨c0, c1, c2, c3⟩, _⟩ := HK.out w0 (Below.refl _ _)
  clear hk hb0 ew hr hL0 hbl hset hfs eL0 hLf ef hnum ht hcd
  go_enter Try.func8, Try.ntmps8
  go_upto_region 1 with (fail)
  rw [Hew.out]
  go_upto_region 4 with (fail)
  have HE := Lib.hid (own_lit w0 w0.heap.size #[.int .u8 ty, .int .u8 cd, .int .u8 0, .int .u8 0, .int .u8 (rs / 16777216), .int .u8 (rs / 65536 % 256), .int .u8 (rs / 256 % 256), .int .u8 (rs % 256)] [ty, cd, 0, 0, rs / 16777216, rs / 65536 % 256, rs / 256 % 256, rs % 256] 8 (Nat.le_refl _) rfl rfl (by omega))
  have hbA : Below w0.heap.size w0 (w0.alloc (.cells #[.int .u8 ty, .int .u8 cd, .int .u8 0, .int .u8 0, .int .u8 (rs / 16777216), .int .u8 (rs / 65536 % 256), .int .u8 (rs / 256 % 256), .int .u8 (rs % 256)] 5)) := (Below.refl _ _).alloc (Nat.le_refl _) _
  have HbA := Lib.hid hbA
  have HrA := Lib.hid (HK.out _ hbA).2
  obtain ⟨⟨a0, a1, a2, a3⟩, _⟩ := HK.out _ hbA
  have hsA : w0.heap.size ≤ (w0.alloc (.cells #[.int .u8 ty, .int .u8 cd, .int .u8 0, .int .u8 0, .int .u8 (rs / 16777216), .int .u8 (rs / 65536 % 256), .int .u8 (rs / 256 % 256), .int .u8 (rs % 256)] 5)).heap.size := hbA.size
  clear hbA c0 c1 c2 c3
  go_upto_region 5 with (refine wpList_app rfl (.tmp 30) (.tmp 32) rfl w0.heap.size (some ⟨w0.heap.size, 0, none⟩) A 8 8 n c [ty, cd, 0, 0, rs / 16777216, rs / 65536 % 256, rs / 256 % 256, rs % 256] d rfl rfl HE.out HrA.out (by omega) hsA ?_; intro A1 k1 w1 ho1 hg1 hb1 hat1)
  rw [← HL0.out] at ho1
  have hrow := ho1.rd Hbl.out
  have Hb := Lib.hid (HbA.out.trans hb1)
  obtain ⟨g, rfl, hgB, hgw⟩ := ho1.addr (by omega)
  have hm : 8 + n ≤ k1 := ho1.cap
  have hm2 : k1 ≤ maxLen := ho1.capMax
  have Hm := Lib.hid (And.intro hm hm2)
  have Ho := Lib.hid ho1
  have HF := Lib.hid (rfield_any (some ⟨g, 0, none⟩) (8 + n) k1 L0 w1 (by omega) hrow)
  rw [Hfs.out] at HF
  obtain ⟨i2, d2, f2⟩ := ownM_ix ho1 2 2 (by omega) rfl
  obtain ⟨i3, d3, f3⟩ := ownM_ix ho1 3 3 (by omega) rfl
  obtain ⟨y2, ey2⟩ : ∃ y, L0.getD 2 0 = y := ⟨_, rfl⟩
  obtain ⟨y3, ey3⟩ : ∃ y, L0.getD 3 0 = y := ⟨_, rfl⟩
  rw [ey2] at d2
  rw [ey3] at d3
  have hv0 : Int.tdiv f 256 = f / 256 := Int.tdiv_eq_ediv_of_nonneg hf.1
  have hv1 : Int.tmod f 256 = f % 256 := Int.tmod_eq_emod_of_nonneg hf.1
  have hv2 : IntKind.u16.wrap (f / 256) = f / 256 := by (simp [IntKind.wrap, IntKind.bits, IntKind.signed] <;> omega)
  have hv3 : IntKind.u8.wrap (f / 256) = f / 256 := by (simp [IntKind.wrap, IntKind.bits, IntKind.signed] <;> omega)
  have hv4 : IntKind.u16.wrap (f % 256) = f % 256 := by (simp [IntKind.wrap, IntKind.bits, IntKind.signed] <;> omega)
  have hv5 : IntKind.u8.wrap (f % 256) = f % 256 := by (simp [IntKind.wrap, IntKind.bits, IntKind.signed] <;> omega)
  have Hgb := Lib.hid hgB
  have hmi : (8 : Int) + (n : Int) ≤ (k1 : Int) := by omega
  clear ho1 hg1 hb1 hat1 hrow HE HrA hsA a0 a1 a2 a3 ey2 ey3 hm hm2 hgB hgw hf
  try simp only [Nat.zero_add]
  go_wp2_with fail
  refine HF.out.mono ?_
  rintro e w2 ⟨rfl, rfl⟩
  go_wp2_with fail
  go_ret2
  exact ⟨some ⟨g, 0, none⟩, k1, rfl, Hm.out.1, Hm.out.2, by rw [← Hset.out]; exact ((Ho.out.set_ 2 (f / 256)).set_ 3 (f % 256)).mono Hb0.out.size, (((below_trans Hb0.out Hb.out).setCell (by have := Hgb.out; have := Hb0.out.size; simp <;> omega) _).setCell (by have := Hgb.out; have := Hb0.out.size; simp <;> omega) _)⟩
theorem rput8_any (s : Msg) (A : Option Addr) (n c : Nat) (w : World) (L : List Int) (m : Nat) (x : Int) (hnum : MsgNum s) (hr : Rd w A n s.d) (hx : errP s = x) (hL : toldM s = L) (hm : L.length = m) :
    Calls Try.prog 8 #[.agg #[.int .u8 s.ty, .int .u8 s.cd, .int .u32 s.rs, .slice A n c]] w (PutM L m x w) := by
  have hl := hr.len
  unfold errP at hx
  unfold toldM at hL
  rw [hl] at hx hL
  by_cases h : 1472 < n
  · rw [if_pos h] at hx hL
    subst hx; subst hL; subst hm
    exact rput8_bad s.ty s.cd s.rs A n c w h
  · rw [if_neg h] at hx hL
    subst hx; subst hL
    rw [← hm, msgB_len, hl]
    exact rput8_ok s A n c w hnum hr (by omega)
end Go.Proofs.Ytcdflpfgjodeaaa
