/-
  A buffer of the program's: slices.Clone of bytes, cutter, and the closure that cuts a piece.
-/
import Derived.Test.YtncbkgcblmohoaaRxMem
import Derived.Test.YtncbkgcblmohoaaRxFit
import Derived.Test.YtncbkgcblmohoaaRxSendP
import Derived.Test.YtncbkgcblmohoaaHeldLast
import Derived.Lib.SliceRun
import Derived.Outline
namespace Go.Proofs.Ytncbkgcblmohoaa
set_option maxRecDepth 10000
open Go.RowKit
set_option linter.unusedSimpArgs false
set_option linter.unusedVariables false

theorem own_slv {w : World} {B n c : Nat} {A : Option Addr} {l : List Int} (h : OwnB w B A n c l) : SlV w 5 1 (.slice A n c) n (l.map (Value.int .u8)) := by
  have hl := h.len
  rcases h.2 with ⟨e, h0⟩ | ⟨g, cap, cur, e, hB, hg, hnc, hcm, hcs, ht⟩
  · subst h0
    have : l = [] := List.eq_nil_of_length_eq_zero hl
    subst this
    exact .inl ⟨e, rfl, rfl⟩
  · injection e with e1 e2 e3
    subst e1; subst e3
    refine .inr ⟨g, 0, c, rfl, cur, hg, by omega, by rw [List.length_map]; omega, hnc, hcm, fun i hi => ?_⟩
    rw [List.length_map] at hi
    rw [Nat.zero_add, ← ht, List.getElem?_take_of_lt (by omega), Array.getElem?_toList]
theorem xclone_any (A : Option Addr) (n c : Nat) (l : List Int) (w : World) (h : RdC w A n c l) (hn : n ≤ 100000) :
    Calls Try.prog 52 #[.slice A n c] w (RowIs n l w) := by
  cases A with
  | none =>
    have hc := h.no rfl
    subst hc
    obtain rfl : n = 0 := by have := h.nc; omega
    have : l = [] := List.eq_nil_of_length_eq_zero h.rd.len
    subst this
    have HF := Lib.hid (show RowIs 0 [] w (.returned (.slice none 0 0)) w from ⟨none, 0, rfl, Nat.le_refl _, by simp [maxLen], OwnB.nil _ _, Below.refl _ _⟩)
    have hnil := fun w => Lib.run_eql_slice_nil (P := Try.prog) w 37 5 none 0 0 0 0 Try.underlying37
    clear h hn
    go_enter Try.func52, Try.ntmps52
    go_wp2_with fail
    go_ret
    exact HF.out
  | some a =>
    have hba : Below w.heap.size w (w.alloc (.cells #[] 5)) := (Below.refl _ _).alloc (Nat.le_refl _) _
    have Hr := Lib.hid (h.rd.below hba)
    have Hba := Lib.hid hba
    have Ho := Lib.hid (OwnB.made (w := w.alloc (.cells #[] 5)) (B := w.heap.size) (g := w.heap.size) (cap := 0) (cur := #[]) (heap_alloc_new w _) (Nat.le_refl _) (by simp [maxLen]) rfl)
    have hs : w.heap.size ≤ (w.alloc (.cells #[] 5)).heap.size := by simp
    have hnil := fun w => Lib.run_eql_slice_nil (P := Try.prog) w 37 5 (some a) n c 0 0 Try.underlying37
    clear h hba
    go_enter Try.func52, Try.ntmps52
    go_wp2_with (refine wpList_app rfl (.tmp 5) (.tmp 6) rfl w.heap.size (some ⟨w.heap.size, 0, none⟩) (some a) 0 0 n c [] l rfl rfl Ho.out Hr.out (by omega) hs ?_; intro A3 c3 w3 hown3 hg3 hb3 hat3)
    go_ret
    refine ⟨A3, c3, ?_, by have := hown3.cap; omega, hown3.capMax, by simpa using hown3, Hba.out.trans hb3⟩
    simp
/-- The boxes that the closure keeps. -/
structure CutB (w : World) (p q r g : Nat) (mi : Int) (lim : Nat) : Prop where
  bp : w.heap[p]? = some (.cells #[.int .i64 mi] 3 (0, 0))
  bq : w.heap[q]? = some (.cells #[.int .i64 (lim : Int)] 3 (0, 0))
  br : w.heap[r]? = some (.cells #[.pointer (some ⟨g, 0, none⟩)] 27 (0, 0))
theorem CutB.but {w w' : World} {p q r g : Nat} {mi : Int} {lim : Nat} {T : Nat → Prop} (h : CutB w p q r g mi lim) (hb : But T w w') (h1 : ¬ T p) (h2 : ¬ T q) (h3 : ¬ T r) : CutB w' p q r g mi lim := ⟨hb.blk h.bp h1, hb.blk h.bq h2, hb.blk h.br h3⟩
def cutF (p q r : Nat) : Value := .func (.func 54) #[] #[.pointer (some ⟨p, 0, none⟩), .pointer (some ⟨q, 0, none⟩), .pointer (some ⟨r, 0, none⟩)]
def CutM (g : Nat) (mi : Int) (lim : Nat) (w : World) (e : Ending) (w' : World) : Prop := ∃ p q r, e = .returned (cutF p q r) ∧ CutB w' p q r g mi lim ∧ Below w.heap.size w w' ∧ w.heap.size ≤ p ∧ w.heap.size ≤ q ∧ w.heap.size ≤ r
theorem cutter_any (g : Nat) (mi : Int) (lim : Nat) (w : World) : Calls Try.prog 47 #[.pointer (some ⟨g, 0, none⟩), .int .i64 mi, .int .i64 (lim : Int)] w (CutM g mi lim w) := by
  obtain ⟨z, ez⟩ : ∃ z, w.heap.size = z := ⟨_, rfl⟩
  obtain ⟨li, eli⟩ : ∃ z : Int, (lim : Int) = z := ⟨_, rfl⟩
  obtain ⟨w1, ew1⟩ : ∃ v, w.alloc (.cells #[.pointer (some ⟨g, 0, none⟩)] 27) = v := ⟨_, rfl⟩
  obtain ⟨w2, ew2⟩ : ∃ v, w1.alloc (.cells #[.int .i64 mi] 3) = v := ⟨_, rfl⟩
  obtain ⟨w3, ew3⟩ : ∃ v, w2.alloc (.cells #[.int .i64 li] 3) = v := ⟨_, rfl⟩
  have hb1 : Below w.heap.size w w1 := by rw [← ew1]; exact (Below.refl _ _).alloc (Nat.le_refl _) _
  have hb2 : Below w1.heap.size w1 w2 := by rw [← ew2]; exact (Below.refl _ _).alloc (Nat.le_refl _) _
  have hb3 : Below w2.heap.size w2 w3 := by rw [← ew3]; exact (Below.refl _ _).alloc (Nat.le_refl _) _
  have hs1 : w1.heap.size = z + 1 := by rw [← ew1]; simp [ez]
  have hs2 : w2.heap.size = z + 2 := by rw [← ew2]; simp [hs1]
  have k1 : w1.heap[z]? = some (.cells #[.pointer (some ⟨g, 0, none⟩)] 27 (0, 0)) := by rw [← ew1, ← ez]; exact heap_alloc_new w _
  have k2 : w2.heap[z + 1]? = some (.cells #[.int .i64 mi] 3 (0, 0)) := by rw [← ew2, ← hs1]; exact heap_alloc_new w1 _
  have k3 : w3.heap[z + 2]? = some (.cells #[.int .i64 li] 3 (0, 0)) := by rw [← ew3, ← hs2]; exact heap_alloc_new w2 _
  have HF := Lib.hid (show CutM g mi lim w (.returned (cutF (z + 1) (z + 2) z)) w3 from
    ⟨z + 1, z + 2, z, rfl, ⟨blk_on k2 hb3, by rw [eli]; exact k3, blk_on (blk_on k1 hb2) hb3⟩, below_trans (below_trans hb1 hb2) hb3, by omega, by omega, by omega⟩)
  have hmf : ∀ (fn : Fn) (first cap : Array Value) (w : World), (Instr.makeFunc fn first cap).run Try.prog w = .ok (.func fn first cap) w := fun _ _ _ _ => rfl
  have Ew1 := Lib.hid ew1
  have Ew2 := Lib.hid ew2
  have Ew3 := Lib.hid ew3
  rw [eli]
  clear hb1 hb2 hb3 k1 k2 k3 ew1 ew2 ew3 eli
  unfold cutF at HF
  go_enter Try.func47, Try.ntmps47
  go_upto_region 1 with (fail)
  rw [Ew1.out, Ew2.out, Ew3.out]
  go_wp2_with fail
  try simp only [hs1, hs2, ez]
  go_ret
  try simp only [hs1, hs2, ez]
  exact HF.out
theorem own_notc {w : World} {B n c k : Nat} {A : Option Addr} {l : List Int} {C : Array Value} {T : TypeId} {fr : Nat × Nat} (h : OwnB w B A n c l) (hk : w.heap[k]? = some (.cells C T fr)) (hT : 5 ≠ T) : ¬ (Value.slice A n c).ownBlock = some k := by
  intro hb
  rcases h.2 with ⟨e, _⟩ | ⟨g2, cap, cur, e, hB, hg, _⟩
  · rw [e] at hb; cases hb
  · rw [e] at hb
    injection hb with hb
    have hb : g2 = k := hb
    subst hb
    rw [hg] at hk
    injection hk with hk
    injection hk with _ hk
    exact hT hk
theorem slv_ne {w : World} {T T' : TypeId} {sz n g : Nat} {v : Value} {vs : List Value} {C' : Array Value} {fr : Nat × Nat} (h : SlV w T sz v n vs) (hg : w.heap[g]? = some (.cells C' T' fr)) (hT : T ≠ T') : ¬ v.ownBlock = some g := by
  intro hb
  rcases h with ⟨rfl, _⟩ | ⟨g2, o, c, rfl, C, hC, _⟩
  · cases hb
  · have e : g2 = g := by simpa [Value.ownBlock] using hb
    subst e
    rw [hC] at hg
    injection hg with hg
    injection hg with _ e2
    exact hT e2
theorem own_but {w w' : World} {B n c : Nat} {A : Option Addr} {l : List Int} {T : Nat → Prop} (h : OwnB w B A n c l) (hb : But T w w') (hn : ∀ b, (Value.slice A n c).ownBlock = some b → ¬ T b) : OwnB w' B A n c l := by
  refine ⟨h.1, ?_⟩
  rcases h.2 with h0 | ⟨g2, cap, cur, e, hB, hc, hrest⟩
  · exact .inl h0
  · exact .inr ⟨g2, cap, cur, e, hB, hb.blk hc (hn g2 (by rw [e]; rfl)), hrest⟩
/-- A piece that was cut. -/
def CutP (S : Nat → Prop) (g : Nat) (A : Option Addr) (c : Nat) (s : XS) (wt ct al x : Int) (data : List Int) (w : World) (e : Ending) (w' : World) : Prop :=
  ∃ A' n' c', e = .returned (.agg #[.int .u32 x, .slice A' n' c']) ∧ data.length = n' ∧ OwnB w' w.heap.size A' n' c' data ∧ XMem w' S g A c s wt ct al ∧ But (fun k => k = g) w w'
theorem cells_not {w : World} {a b : Nat} {C D : Array Value} {T U : TypeId} {f1 f2 : Nat × Nat} (h : w.heap[a]? = some (.cells C T f1)) (k : w.heap[b]? = some (.cells D U f2)) (hT : T ≠ U) : ¬ a = b := by
  rintro rfl
  rw [h] at k
  injection k with k
  injection k with _ k
  exact hT k
set_option maxHeartbeats 2000000 in
theorem cutter1_any {w : World} {S : Nat → Prop} {g c : Nat} {A : Option Addr} {s : XS} {wt ct al : Int} (h : XMem w S g A c s wt ct al) (p q r : Nat) (mi : Int) (k lim tu : Nat) (hb : CutB w p q r g mi lim) (hm : 1 ≤ mi ∧ mi ≤ 1500) (hk : k ≤ lim) (hl : lim ≤ s.bs.length) (ht : tu = min (k + mi.toNat) lim) (s' : XS) (hs' : { s with sent := max s.sent tu } = s') (x : Int) (hx : numX (s.una + (k : Int)) = x) (data : List Int) (hd : (s.bs.take tu).drop k = data) :
    Calls Try.prog 54 #[.int .i64 (k : Int), .pointer (some ⟨p, 0, none⟩), .pointer (some ⟨q, 0, none⟩), .pointer (some ⟨r, 0, none⟩)] w (CutP S g A c s' wt ct al x data w) := by
  have hlen := h.ok.len
  have hsent := h.ok.sent
  obtain ⟨z, ez⟩ : ∃ z, w.heap.size = z := ⟨_, rfl⟩
  obtain ⟨w1, ew1⟩ : ∃ v, w.alloc (.cells #[.int .u32 0, .slice none 0 0] 54) = v := ⟨_, rfl⟩
  have hb1 : Below w.heap.size w w1 := by rw [← ew1]; exact (Below.refl _ _).alloc (Nat.le_refl _) _
  have kz1 : w1.heap[z]? = some (.cells #[.int .u32 0, .slice none 0 0] 54 (0, 0)) := by rw [← ew1, ← ez]; exact heap_alloc_new w _
  have h1 := h.on hb1
  have hc1 := hb.but (But.of (S := fun _ => False) hb1) (fun e => e) (fun e => e) (fun e => e)
  obtain ⟨fi, efi⟩ : ∃ v : Int, (k : Int) = v := ⟨_, rfl⟩
  obtain ⟨li, eli⟩ : ∃ v : Int, (lim : Int) = v := ⟨_, rfl⟩
  obtain ⟨ti, eti⟩ : ∃ v : Int, (tu : Int) = v := ⟨_, rfl⟩
  obtain ⟨se, ese⟩ : ∃ v : Int, (s.sent : Int) = v := ⟨_, rfl⟩
  obtain ⟨mx, emx⟩ : ∃ v : Int, ((max s.sent tu : Nat) : Int) = v := ⟨_, rfl⟩
  obtain ⟨km, ekm⟩ : ∃ v : Int, fi + mi = v := ⟨_, rfl⟩
  have u1 : wrap64 (fi + mi) = km := by rw [IntWalk.wrap64_in _ (by omega)]; exact ekm
  have u2 : (if li < km then li else km) = ti := by split <;> omega
  have u3 : (if se < ti then ti else se) = mx := by split <;> omega
  have u4 : (if ti < se then se else ti) = mx := by split <;> omega
  have cp : w1.cell? ⟨p, 0, none⟩ = some (.int .i64 mi) := by rw [blk_cell hc1.bp]; rfl
  have cq : w1.cell? ⟨q, 0, none⟩ = some (.int .i64 li) := by rw [blk_cell hc1.bq, ← eli]; rfl
  have cr : w1.cell? ⟨r, 0, none⟩ = some (.pointer (some ⟨g, 0, none⟩)) := by rw [blk_cell hc1.br]; rfl
  have c3 : w1.cell? ⟨g, 3, none⟩ = some (.int .i64 se) := by rw [← ese]; exact h1.c3
  have f3 := h1.free 3
  have hrg := cells_not hc1.br h1.box (by decide)
  have hzg := cells_not kz1 h1.box (by decide)
  have hpg := cells_not hc1.bp h1.box (by decide)
  -- region 2
  obtain ⟨w1d, ew1d⟩ : ∃ v, w1.drew = v := ⟨_, rfl⟩
  have hd1 : XMem w1d S g A c s wt ct al := by rw [← ew1d]; exact h1.drewN 1
  have hB1d : But (fun _ => False) w1 w1d := by rw [← ew1d]; exact (But.refl _ _).drew
  have cr1 : w1d.cell? ⟨r, 0, none⟩ = some (.pointer (some ⟨g, 0, none⟩)) := by rw [blk_cell (hB1d.blk hc1.br (fun e => e))]; rfl
  have c31 : w1d.cell? ⟨g, 3, none⟩ = some (.int .i64 se) := by rw [← ese]; exact hd1.c3
  obtain ⟨w2, ew2⟩ : ∃ v, w1d.setCell ⟨g, 3, none⟩ (.int .i64 mx) = v := ⟨_, rfl⟩
  obtain ⟨hx2, hB2⟩ := hd1.set_ (s' := s') (wt' := wt) (ct' := ct) (al' := al) 3 (.int .i64 mx) (by rw [← hs']) (by rw [← hs', ← emx]; rfl) (by
    have ho := h.ok
    rw [← hs']
    exact { ho with sent := by show max s.sent tu ≤ s.bs.length; omega }) (by rw [← hs']; exact h.on_)
  rw [ew2] at hx2 hB2
  have kz2 := hB2.blk (hB1d.blk kz1 (fun e => e)) hzg
  have br2 := hB2.blk (hB1d.blk hc1.br (fun e => e)) hrg
  have hB02 : But (fun k => k = g) w w2 := ((But.of hb1).trans (hB1d.mono (fun _ _ e => e.elim))).trans hB2
  have ebs : s'.bs = s.bs := by rw [← hs']
  have euna : s'.una = s.una := by rw [← hs']
  -- region 3
  obtain ⟨w3, ew3⟩ : ∃ v, w2.drew = v := ⟨_, rfl⟩
  have hd3 : XMem w3 S g A c s' wt ct al := by rw [← ew3]; exact hx2.drewN 1
  have hB3 : But (fun _ => False) w2 w3 := by rw [← ew3]; exact (But.refl _ _).drew
  have br3 := hB3.blk br2 (fun e => e)
  have kz3 := hB3.blk kz2 (fun e => e)
  have HNu := Lib.hid (xnumber_any hd3 fi x (by rw [euna, ← efi]; exact hx))
  obtain ⟨A4, hcut, hrd4⟩ := hd3.rdc.part k tu (by omega) (by rw [ebs]; omega)
  rw [ebs, hd] at hrd4
  have hdl := hrd4.rd.len
  obtain ⟨n4, en4⟩ : ∃ n4, tu - k = n4 := ⟨_, rfl⟩
  obtain ⟨c4, ec4⟩ : ∃ c4, c - k = c4 := ⟨_, rfl⟩
  rw [en4, ec4] at hrd4 hcut
  rw [en4] at hdl
  obtain ⟨n, en⟩ : ∃ n, s'.bs.length = n := ⟨_, rfl⟩
  rw [en, efi, eti] at hcut
  have HCl := Lib.hid (xclone_any A4 n4 c4 data w3 hrd4 (by omega))
  have c23 : w3.cell? ⟨g, 2, none⟩ = some (.slice A n c) := by rw [← en]; exact hd3.c2
  have HS3 := Lib.hid (show w3.cell? ⟨r, 0, none⟩ = some (.pointer (some ⟨g, 0, none⟩)) ∧ w3.cell? ⟨g, 2, none⟩ = some (.slice A n c) from ⟨by rw [blk_cell br3]; rfl, c23⟩)
  have HR4 := Lib.hid (And.intro (lt_of_block br3) (lt_of_block hd3.box))
  have HZ4 := Lib.hid kz3
  have HX3 := Lib.hid hd3
  have HB03 := Lib.hid (hB02.trans (hB3.mono (fun _ _ e => e.elim)))
  have HDl := Lib.hid hdl
  have HLt := Lib.hid h.lt
  have HS2 := Lib.hid (And.intro cr1 c31)
  have f31 := hd1.free 3
  have Ew1 := Lib.hid ew1
  have Ew1d := Lib.hid ew1d
  have Ew2 := Lib.hid ew2
  have Ew3 := Lib.hid ew3
  have Hez := Lib.hid (show w.heap.size ≤ z ∧ ¬ z = g ∧ z < w1.heap.size from ⟨by omega, hzg, lt_of_block kz1⟩)
  rw [efi]
  clear h hb hm hk hl ht hs' hx hd hlen hsent hb1 kz1 h1 hc1 efi eli eti ese emx ekm hrg hzg hpg ew1d hd1 hB1d ew2 hx2 hB2 kz2 br2 hB02 ebs euna ew3 hd3 hB3 br3 kz3 hrd4 hdl en4 ec4 en c23 ew1
  go_enter Try.func54, Try.ntmps54
  go_upto_region 1 with (fail)
  rw [Ew1.out]
  try rw [ez]
  clear ez
  go_upto_region 2 with (fail)
  clear cp cq u1 u2
  refine wp_region_heldL (S := fun w' => w'.cell? ⟨r, 0, none⟩ = some (.pointer (some ⟨g, 0, none⟩)) ∧ w'.cell? ⟨g, 3, none⟩ = some (.int .i64 se)) 9 (by kernel_rfl) (by rw [Ew1d.out]; exact HS2.out) (fun hHeld => ?_)
  rw [Ew1d.out] at hHeld ⊢
  refine anyHL_take (i := 0) (oi := { dst := some 12, op := Go.Op.load 27 (Go.Operand.tmp 3), type := 27, pos := "rexmit.go:200", after := #[], guard := none }) (v := ?_) rfl (by kernel_rfl) (by kernel_rfl) (by kernel_rfl) (by kernel_rfl) (fun _ _ _ h => h) (Or.inl ⟨by rfl, ?_⟩) (by assumption) ?_
  rotate_left 1
  · intro w' hSw; (go_simp <;> (with_reducible rfl))
  (try simp only [Act.put, List.setIfInBounds_toArray, List.set_cons_zero, List.set_cons_succ])
  refine anyHL_take (i := 1) (oi := { dst := some 13, op := Go.Op.load 27 (Go.Operand.tmp 3), type := 27, pos := "rexmit.go:200", after := #[], guard := none }) (v := ?_) rfl (by kernel_rfl) (by kernel_rfl) (by kernel_rfl) (by kernel_rfl) (fun _ _ _ h => h) (Or.inl ⟨by rfl, ?_⟩) (by assumption) ?_
  rotate_left 1
  · intro w' hSw; (go_simp <;> (with_reducible rfl))
  (try simp only [Act.put, List.setIfInBounds_toArray, List.set_cons_zero, List.set_cons_succ])
  refine anyHL_take (i := 2) (oi := { dst := some 14, op := Go.Op.nilCheck (Go.Operand.tmp 13), type := 0, pos := "rexmit.go:200", after := #[{ on := 1, ground := Go.Ground.data }], guard := none }) (v := ?_) rfl (by kernel_rfl) (by kernel_rfl) (by kernel_rfl) (by kernel_rfl) (fun _ _ _ h => h) (Or.inl ⟨by rfl, ?_⟩) (by assumption) ?_
  rotate_left 1
  · intro w' hSw; (go_simp <;> (with_reducible rfl))
  (try simp only [Act.put, List.setIfInBounds_toArray, List.set_cons_zero, List.set_cons_succ])
  refine anyHL_take (i := 3) (oi := { dst := some 15, op := Go.Op.fieldAddr 84 (Go.Operand.tmp 14) 3, type := 0, pos := "rexmit.go:200", after := #[{ on := 2, ground := Go.Ground.data }], guard := none }) (v := ?_) rfl (by kernel_rfl) (by kernel_rfl) (by kernel_rfl) (by kernel_rfl) (fun _ _ _ h => h) (Or.inl ⟨by rfl, ?_⟩) (by assumption) ?_
  rotate_left 1
  · intro w' hSw; (go_simp <;> (with_reducible rfl))
  (try simp only [Act.put, List.setIfInBounds_toArray, List.set_cons_zero, List.set_cons_succ])
  refine anyHL_take (i := 4) (oi := { dst := some 16, op := Go.Op.load 3 (Go.Operand.tmp 15), type := 3, pos := "rexmit.go:200", after := #[{ on := 3, ground := Go.Ground.data }], guard := none }) (v := ?_) rfl (by kernel_rfl) (by kernel_rfl) (by kernel_rfl) (by kernel_rfl) (fun _ _ _ h => h) (Or.inl ⟨by rfl, ?_⟩) (by assumption) ?_
  rotate_left 1
  · intro w' hSw; (go_simp <;> (with_reducible rfl))
  (try simp only [Act.put, List.setIfInBounds_toArray, List.set_cons_zero, List.set_cons_succ])
  refine anyHL_take (i := 5) (oi := { dst := some 17, op := Go.Op.move (Go.Operand.tmp 6), type := 3, pos := "rexmit.go:200", after := #[], guard := none }) (v := ?_) rfl (by kernel_rfl) (by kernel_rfl) (by kernel_rfl) (by kernel_rfl) (fun _ _ _ h => h) (Or.inl ⟨by rfl, ?_⟩) (by assumption) ?_
  rotate_left 1
  · intro w' hSw; (go_simp <;> (with_reducible rfl))
  (try simp only [Act.put, List.setIfInBounds_toArray, List.set_cons_zero, List.set_cons_succ])
  refine anyHL_take (i := 6) (oi := { dst := some 18, op := Go.Op.call { callee := Go.Callee.builtin Go.Builtin.max, args := #[Go.Operand.tmp 16, Go.Operand.tmp 17], argTypes := #[3, 3] }, type := 3, pos := "rexmit.go:200", after := #[{ on := 4, ground := Go.Ground.data }, { on := 5, ground := Go.Ground.data }], guard := none }) (v := ?_) rfl (by kernel_rfl) (by kernel_rfl) (by kernel_rfl) (by kernel_rfl) (fun _ _ _ h => h) (Or.inl ⟨by rfl, ?_⟩) (by assumption) ?_
  rotate_left 1
  · intro w' hSw; (go_simp <;> (with_reducible rfl))
  (try simp only [Act.put, List.setIfInBounds_toArray, List.set_cons_zero, List.set_cons_succ])
  refine anyHL_one (i := 7) (o := { dst := some 19, op := Go.Op.nilCheck (Go.Operand.tmp 12), type := 0, pos := "rexmit.go:200", after := #[{ on := 0, ground := Go.Ground.data }, { on := 0, ground := Go.Ground.phase }, { on := 1, ground := Go.Ground.phase }, { on := 2, ground := Go.Ground.phase }, { on := 3, ground := Go.Ground.phase }, { on := 4, ground := Go.Ground.phase }, { on := 5, ground := Go.Ground.phase }, { on := 6, ground := Go.Ground.phase }], guard := none }) (by kernel_rfl) rfl (by kernel_rfl) (fun K hK => ?_)
  go_simp
  skip
  refine hK.out _ _ ?_ (fun hHeld => ?_)
  · exact HS2.out
  clear hK K
  (try simp only [Act.put, List.setIfInBounds_toArray, List.set_cons_zero, List.set_cons_succ])
  refine anyHL_take (i := 8) (oi := { dst := some 20, op := Go.Op.fieldAddr 84 (Go.Operand.tmp 19) 3, type := 0, pos := "rexmit.go:200", after := #[{ on := 7, ground := Go.Ground.data }, { on := 0, ground := Go.Ground.phase }, { on := 1, ground := Go.Ground.phase }, { on := 2, ground := Go.Ground.phase }, { on := 3, ground := Go.Ground.phase }, { on := 4, ground := Go.Ground.phase }, { on := 5, ground := Go.Ground.phase }, { on := 6, ground := Go.Ground.phase }], guard := none }) (v := ?_) rfl (by kernel_rfl) (by kernel_rfl) (by kernel_rfl) (by kernel_rfl) (fun _ _ _ h => h) (Or.inl ⟨by rfl, ?_⟩) (by assumption) ?_
  rotate_left 1
  · intro w' hSw; (go_simp <;> (with_reducible rfl))
  (try simp only [Act.put, List.setIfInBounds_toArray, List.set_cons_zero, List.set_cons_succ])
  refine anyHL_last (o := { dst := none, op := Go.Op.store 3 (Go.Operand.tmp 20) (Go.Operand.tmp 18), type := 0, pos := "rexmit.go:200", after := #[{ on := 8, ground := Go.Ground.data }, { on := 6, ground := Go.Ground.data }, { on := 0, ground := Go.Ground.phase }, { on := 1, ground := Go.Ground.phase }, { on := 2, ground := Go.Ground.phase }, { on := 3, ground := Go.Ground.phase }, { on := 4, ground := Go.Ground.phase }, { on := 5, ground := Go.Ground.phase }, { on := 6, ground := Go.Ground.phase }], guard := none }) (by kernel_rfl) rfl (by kernel_rfl) (fun K hK => ?_)
  go_simp
  skip
  refine hK.out _ _ ?_
  clear hK K
  (try simp only [Act.put, List.setIfInBounds_toArray, List.set_cons_zero, List.set_cons_succ])
  rw [Ew2.out]
  clear cr c3 f3 u3 u4 cr1 c31 f31
  go_wp2_with fail
  refine wp_region_heldL (S := fun w' => w'.cell? ⟨r, 0, none⟩ = some (.pointer (some ⟨g, 0, none⟩)) ∧ w'.cell? ⟨g, 2, none⟩ = some (.slice A n c)) 12 (by kernel_rfl) (by rw [Ew3.out]; exact HS3.out) (fun hHeld => ?_)
  rw [Ew3.out] at hHeld ⊢
  refine anyHL_take (i := 0) (oi := { dst := some 21, op := Go.Op.load 27 (Go.Operand.tmp 3), type := 27, pos := "rexmit.go:201", after := #[], guard := none }) (v := ?_) rfl (by kernel_rfl) (by kernel_rfl) (by kernel_rfl) (by kernel_rfl) (fun _ _ _ h => h) (Or.inl ⟨by rfl, ?_⟩) (by assumption) ?_
  rotate_left 1
  · intro w' hSw; (go_simp <;> (with_reducible rfl))
  (try simp only [Act.put, List.setIfInBounds_toArray, List.set_cons_zero, List.set_cons_succ])
  refine anyHL_take (i := 1) (oi := { dst := some 22, op := Go.Op.move (Go.Operand.tmp 0), type := 3, pos := "rexmit.go:201", after := #[], guard := none }) (v := ?_) rfl (by kernel_rfl) (by kernel_rfl) (by kernel_rfl) (by kernel_rfl) (fun _ _ _ h => h) (Or.inl ⟨by rfl, ?_⟩) (by assumption) ?_
  rotate_left 1
  · intro w' hSw; (go_simp <;> (with_reducible rfl))
  (try simp only [Act.put, List.setIfInBounds_toArray, List.set_cons_zero, List.set_cons_succ])
  refine anyHL_take (i := 3) (oi := { dst := some 24, op := Go.Op.load 27 (Go.Operand.tmp 3), type := 27, pos := "rexmit.go:201", after := #[], guard := none }) (v := ?_) rfl (by kernel_rfl) (by kernel_rfl) (by kernel_rfl) (by kernel_rfl) (fun _ _ _ h => h) (Or.inl ⟨by rfl, ?_⟩) (by assumption) ?_
  rotate_left 1
  · intro w' hSw; (go_simp <;> (with_reducible rfl))
  (try simp only [Act.put, List.setIfInBounds_toArray, List.set_cons_zero, List.set_cons_succ])
  refine anyHL_take (i := 4) (oi := { dst := some 25, op := Go.Op.nilCheck (Go.Operand.tmp 24), type := 0, pos := "rexmit.go:201", after := #[{ on := 3, ground := Go.Ground.data }], guard := none }) (v := ?_) rfl (by kernel_rfl) (by kernel_rfl) (by kernel_rfl) (by kernel_rfl) (fun _ _ _ h => h) (Or.inl ⟨by rfl, ?_⟩) (by assumption) ?_
  rotate_left 1
  · intro w' hSw; (go_simp <;> (with_reducible rfl))
  (try simp only [Act.put, List.setIfInBounds_toArray, List.set_cons_zero, List.set_cons_succ])
  refine anyHL_take (i := 5) (oi := { dst := some 26, op := Go.Op.fieldAddr 84 (Go.Operand.tmp 25) 2, type := 0, pos := "rexmit.go:201", after := #[{ on := 4, ground := Go.Ground.data }], guard := none }) (v := ?_) rfl (by kernel_rfl) (by kernel_rfl) (by kernel_rfl) (by kernel_rfl) (fun _ _ _ h => h) (Or.inl ⟨by rfl, ?_⟩) (by assumption) ?_
  rotate_left 1
  · intro w' hSw; (go_simp <;> (with_reducible rfl))
  (try simp only [Act.put, List.setIfInBounds_toArray, List.set_cons_zero, List.set_cons_succ])
  refine anyHL_take (i := 6) (oi := { dst := some 27, op := Go.Op.load 37 (Go.Operand.tmp 26), type := 37, pos := "rexmit.go:201", after := #[{ on := 5, ground := Go.Ground.data }], guard := none }) (v := ?_) rfl (by kernel_rfl) (by kernel_rfl) (by kernel_rfl) (by kernel_rfl) (fun _ _ _ h => h) (Or.inl ⟨by rfl, ?_⟩) (by assumption) ?_
  rotate_left 1
  · intro w' hSw; (go_simp <;> (with_reducible rfl))
  (try simp only [Act.put, List.setIfInBounds_toArray, List.set_cons_zero, List.set_cons_succ])
  refine anyHL_take (i := 7) (oi := { dst := some 28, op := Go.Op.move (Go.Operand.tmp 0), type := 3, pos := "rexmit.go:201", after := #[], guard := none }) (v := ?_) rfl (by kernel_rfl) (by kernel_rfl) (by kernel_rfl) (by kernel_rfl) (fun _ _ _ h => h) (Or.inl ⟨by rfl, ?_⟩) (by assumption) ?_
  rotate_left 1
  · intro w' hSw; (go_simp <;> (with_reducible rfl))
  (try simp only [Act.put, List.setIfInBounds_toArray, List.set_cons_zero, List.set_cons_succ])
  refine anyHL_take (i := 8) (oi := { dst := some 29, op := Go.Op.move (Go.Operand.tmp 6), type := 3, pos := "rexmit.go:201", after := #[], guard := none }) (v := ?_) rfl (by kernel_rfl) (by kernel_rfl) (by kernel_rfl) (by kernel_rfl) (fun _ _ _ h => h) (Or.inl ⟨by rfl, ?_⟩) (by assumption) ?_
  rotate_left 1
  · intro w' hSw; (go_simp <;> (with_reducible rfl))
  (try simp only [Act.put, List.setIfInBounds_toArray, List.set_cons_zero, List.set_cons_succ])
  refine anyHL_take (i := 9) (oi := { dst := some 30, op := Go.Op.slice 37 (Go.Operand.tmp 27) (some (Go.Operand.tmp 28)) (some (Go.Operand.tmp 29)) none, type := 37, pos := "rexmit.go:201", after := #[{ on := 6, ground := Go.Ground.data }, { on := 7, ground := Go.Ground.data }, { on := 8, ground := Go.Ground.data }], guard := none }) (v := ?_) rfl (by kernel_rfl) (by kernel_rfl) (by kernel_rfl) (by kernel_rfl) (fun _ _ _ h => h) (Or.inl ⟨by rfl, ?_⟩) (by assumption) ?_
  rotate_left 1
  · intro w' hSw; (go_simp <;> (with_reducible rfl))
  (try simp only [Act.put, List.setIfInBounds_toArray, List.set_cons_zero, List.set_cons_succ])
  refine anyHL_one (i := 2) (o := { dst := some 23, op := Go.Op.call { callee := Go.Callee.value (Go.Operand.func 42), args := #[Go.Operand.tmp 21, Go.Operand.tmp 22], argTypes := #[27, 3] }, type := 22, pos := "rexmit.go:201", after := #[{ on := 0, ground := Go.Ground.data }, { on := 1, ground := Go.Ground.data }], guard := none }) (by kernel_rfl) rfl (by kernel_rfl) (fun K hK => ?_)
  go_simp
  refine HNu.out.mono ?_; rintro e w' ⟨rfl, rfl⟩
  refine hK.out _ _ ?_ (fun hHeld => ?_)
  · exact HS3.out
  clear hK K
  (try simp only [Act.put, List.setIfInBounds_toArray, List.set_cons_zero, List.set_cons_succ])
  refine anyHL_one (i := 10) (o := { dst := some 31, op := Go.Op.call { callee := Go.Callee.value (Go.Operand.func 52), args := #[Go.Operand.tmp 30], argTypes := #[37] }, type := 37, pos := "rexmit.go:201", after := #[{ on := 9, ground := Go.Ground.data }, { on := 2, ground := Go.Ground.chain }], guard := none }) (by kernel_rfl) rfl (by kernel_rfl) (fun K hK => ?_)
  go_simp
  refine HCl.out.mono ?_; rintro e w5 ⟨A5, c5, rfl, hnc5, hcm5, ho5, hb5⟩
  refine hK.out _ _ ?_ (fun hHeld => ?_)
  · exact And.intro ((hb5.cell (p := ⟨r, 0, none⟩) (by exact HR4.out.1)).trans HS3.out.1) ((hb5.cell (p := ⟨g, 2, none⟩) (by exact HR4.out.2)).trans HS3.out.2)
  clear hK K
  (try simp only [Act.put, List.setIfInBounds_toArray, List.set_cons_zero, List.set_cons_succ])
  refine anyHL_take (i := 11) (oi := { dst := some 32, op := Go.Op.build 54 #[(0, Go.Operand.tmp 23), (1, Go.Operand.tmp 31)], type := 54, pos := "rexmit.go:201", after := #[{ on := 2, ground := Go.Ground.data }, { on := 10, ground := Go.Ground.data }], guard := none }) (v := ?_) rfl (by kernel_rfl) (by kernel_rfl) (by kernel_rfl) (by kernel_rfl) (fun _ _ _ h => h) (Or.inl ⟨by rfl, ?_⟩) (by assumption) ?_
  rotate_left 1
  · intro w' hSw; (go_simp <;> (with_reducible rfl))
  (try simp only [Act.put, List.setIfInBounds_toArray, List.set_cons_zero, List.set_cons_succ])
  have HB5 := Lib.hid hb5
  have HO5 := Lib.hid ho5
  have kz5 := blk_on HZ4.out hb5
  have z0 : w5.cell? ⟨z, 0, none⟩ = some (.int .u32 0) := by rw [blk_cell kz5]; rfl
  have z1 : w5.cell? ⟨z, 1, none⟩ = some (.slice none 0 0) := by rw [blk_cell kz5]; rfl
  have zf0 := blk_free kz5 0
  have zf1 := blk_free kz5 1
  have Kz5 := Lib.hid kz5
  clear hb5 ho5 hnc5 hcm5 kz5
  refine anyHL_last (o := { dst := none, op := Go.Op.store 54 (Go.Operand.tmp 5) (Go.Operand.tmp 32), type := 0, pos := "rexmit.go:201", after := #[{ on := 11, ground := Go.Ground.data }, { on := 10, ground := Go.Ground.chain }, { on := 0, ground := Go.Ground.phase }, { on := 1, ground := Go.Ground.phase }, { on := 2, ground := Go.Ground.phase }, { on := 3, ground := Go.Ground.phase }, { on := 4, ground := Go.Ground.phase }, { on := 5, ground := Go.Ground.phase }, { on := 6, ground := Go.Ground.phase }, { on := 7, ground := Go.Ground.phase }, { on := 8, ground := Go.Ground.phase }, { on := 9, ground := Go.Ground.phase }, { on := 10, ground := Go.Ground.phase }, { on := 11, ground := Go.Ground.phase }], guard := none }) (by kernel_rfl) rfl (by kernel_rfl) (fun K hK => ?_)
  go_simp
  skip
  refine hK.out _ _ ?_
  clear hK K
  (try simp only [Act.put, List.setIfInBounds_toArray, List.set_cons_zero, List.set_cons_succ])
  obtain ⟨w6, ew6⟩ : ∃ v, (w5.setCell ⟨z, 0, none⟩ (.int .u32 x)).setCell ⟨z, 1, none⟩ (.slice A5 n4 c5) = v := ⟨_, rfl⟩
  have kz6 : w6.heap[z]? = some (.cells #[.int .u32 x, .slice A5 n4 c5] 54 (0, 0)) := by
    rw [← ew6]
    have := Kz5.out
    simp [World.setCell, Array.getElem?_modify, this]
  have hB6 : But (fun k => k = z) w5 w6 := by rw [← ew6]; exact ((But.refl (fun k => k = z) w5).setCell (p := ⟨z, 0, none⟩) rfl _).setCell (p := ⟨z, 1, none⟩) rfl _
  have hF : CutP S g A c s' wt ct al x data w (.returned (.agg #[.int .u32 x, .slice A5 n4 c5])) w6 := by
    have hw3 := HX3.out
    have hlt3 := hw3.lt
    obtain ⟨e1, e2, e3⟩ := Hez.out
    have hB5 : But (fun k => k = g) w3 w5 := But.of HB5.out
    have hno := own_notc HO5.out Kz5.out (by decide)
    refine ⟨A5, n4, c5, rfl, HDl.out, ⟨HO5.out.1, ?_⟩, ?_, ?_⟩
    · rcases HO5.out.2 with h0 | ⟨g2, cap, cur, e, hBg, hc, hrest⟩
      · exact .inl h0
      · exact .inr ⟨g2, cap, cur, e, by have := HB03.out.size; omega, hB6.blk hc (fun e2 => hno (by rw [e, ← e2]; rfl)), hrest⟩
    · exact (hw3.on HB5.out).but hB6 (fun k hk e => by have := HLt.out k hk; omega)
    · exact (HB03.out.trans hB5).trans2 hB6 (fun k hk e => by omega)
  rw [ew6]
  clear ew6
  go_wp2_with fail
  exact bodyPost_ret (v := .agg #[.int .u32 x, .slice A5 n4 c5]) (results_rowF rfl _ _ z _ _ (0, 0) _ rfl kz6 Try.underlying54 rfl (by kernel_rfl)) rfl hF
end Go.Proofs.Ytncbkgcblmohoaa
