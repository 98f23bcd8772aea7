/-
  How a table in memory turns: its maps, its list, one flow's part; the contracts of package table's lead and drop.
-/
import Derived.Test.YtnhlbohdlnjaaaaTbRead
import Derived.Test.YtnhlbohdlnjaaaaFlDel
namespace Go.Proofs.Ytnhlbohdlnjaaaa
set_option maxRecDepth 10000
open Go.RowKit
set_option linter.unusedSimpArgs false
set_option linter.unusedVariables false

section
variable {w w' : World} {S T : Nat → Prop} {g : Nat} {M last : Int} {L L' : TL} {mi mo : Nat} {u u' : Value} {KI KI' : Tu → Prop} {RI RI' : Tu → Value} {KO KO' : Tu → Prop} {RO RO' : Tu → Value}
theorem TMem.turnI (h : TMem w S g M last L mi mo u KI RI KO RO) (hB : But (fun k => k = mi) w w') (hm : MTP w' mi KI' RI') : TMem w' S g M last L mi mo u KI' RI' KO RO :=
  ⟨hB.blk h.box h.gi, hm, h.out.but hB (fun e => h.im e.symm), h.row.but hB (fun b hb e => h.iu hb e.symm), h.im, h.sg, h.si, h.so, h.su, fun k hk => hB.lt (h.lt k hk)⟩
theorem TMem.turnO (h : TMem w S g M last L mi mo u KI RI KO RO) (hB : But (fun k => k = mo) w w') (hm : MTP w' mo KO' RO') : TMem w' S g M last L mi mo u KI RI KO' RO' :=
  ⟨hB.blk h.box h.go, h.inn.but hB h.im, hm, h.row.but hB (fun b hb e => h.ou hb e.symm), h.im, h.sg, h.si, h.so, h.su, fun k hk => hB.lt (h.lt k hk)⟩
/-- Its list's cells turn in place. -/
theorem TMem.relist (h : TMem w S g M last L mi mo u KI RI KO RO) (hB : But (fun k => u.ownBlock = some k) w w') (hr : SlV w' 51 12 u L'.length (flatF L')) : TMem w' S g M last L' mi mo u KI RI KO RO :=
  ⟨hB.blk h.box (fun e => h.gu e rfl), h.inn.but hB (fun e => h.iu e rfl), h.out.but hB (fun e => h.ou e rfl), hr, h.im, h.sg, h.si, h.so, h.su, fun k hk => hB.lt (h.lt k hk)⟩
/-- The list is another one now. -/
theorem TMem.lay {w1 : World} (h : TMem w S g M last L mi mo u KI RI KO RO) (hB : But (fun k => u.ownBlock = some k) w w1) (hr : SlV w1 51 12 u' L'.length (flatF L')) (ho : ∀ b, u'.ownBlock = some b → u.ownBlock = some b ∨ w.heap.size ≤ b) :
    TMem (w1.setCell ⟨g, 5, none⟩ u') (fun k => S k ∨ u'.ownBlock = some k) g M last L' mi mo u' KI RI KO RO ∧ But S w (w1.setCell ⟨g, 5, none⟩ u') ∧ (∀ k, (S k ∨ u'.ownBlock = some k) → S k ∨ w.heap.size ≤ k) ∧ w1.frozen? ⟨g, 5, none⟩ = false ∧ w1.cell? ⟨g, 5, none⟩ = some u := by
  have hbox := hB.blk h.box (fun e => h.gu e rfl)
  have hB2 : But (fun k => k = g) w1 (w1.setCell ⟨g, 5, none⟩ u') := (But.refl (fun k => k = g) w1).setCell (p := ⟨g, 5, none⟩) rfl u'
  have hvg : ∀ b, u'.ownBlock = some b → b ≠ g := fun b hb e => by
    subst e
    rcases ho b hb with h1 | h1
    · exact h.gu h1 rfl
    · exact absurd (h.lt b h.sg) (by omega)
  refine ⟨⟨?_, (h.inn.but hB (fun e => h.iu e rfl)).but hB2 (fun e => h.gi e.symm), (h.out.but hB (fun e => h.ou e rfl)).but hB2 (fun e => h.go e.symm), hr.but hB2 hvg, h.im, .inl h.sg, .inl h.si, .inl h.so, fun b hb => .inr hb, fun k hk => ?_⟩, ?_, fun k hk => ?_, blk_free hbox 5, blk_cell hbox 5⟩
  · have := heap_setCell_at hbox 5 u'
    simpa using this
  · have e1 : (w1.setCell ⟨g, 5, none⟩ u').heap.size = w1.heap.size := by simp [World.setCell]
    rw [e1]
    rcases hk with hk | hk
    · exact hB.lt (h.lt k hk)
    · exact hr.lt hk
  · exact (hB.mono (S' := S) (fun k _ e => h.su k e)).trans2 hB2 (fun k _ e => e ▸ h.sg)
  · rcases hk with hk | hk
    · exact .inl hk
    · rcases ho k hk with h1 | h1
      · exact .inl (h.su k h1)
      · exact .inr h1
end
/-- The outer tuple of one flow is another one. -/
theorem RowV.lead {w w' : World} {T : TypeId} {g o n c : Nat} {L : TL} (h : RowV w T 12 g o n (flatF L) c) (hn : L.length = n) {j : Nat} (hj : j < n) (x : Tu) {p : Nat} (hp : o + j * 12 = p)
    (hw : ((((w.setCell ⟨g, p + 6, none⟩ (.int .u8 x.pr)).setCell ⟨g, p + 7, none⟩ (.int .u32 x.sr)).setCell ⟨g, p + 8, none⟩ (.int .u32 x.ds)).setCell ⟨g, p + 9, none⟩ (.int .u16 x.sp)).setCell ⟨g, p + 10, none⟩ (.int .u16 x.dp) = w') :
    RowV w' T 12 g o n (flatF (leadF j x L)) c ∧ But (fun k => k = g) w w' ∧ FlAt w' g p { L.getD j f0 with o := x } := by
  have hfl := h.fl hn hj
  rw [hp] at hfl
  obtain ⟨C, hg, hs⟩ := h.flsize hn
  have hps : p + 12 ≤ C.size := by omega
  have h1 := heap_setCell_at hg (p + 6) (.int .u8 x.pr)
  have h2 := heap_setCell_at h1 (p + 7) (.int .u32 x.sr)
  have h3 := heap_setCell_at h2 (p + 8) (.int .u32 x.ds)
  have h4 := heap_setCell_at h3 (p + 9) (.int .u16 x.sp)
  have h5 := heap_setCell_at h4 (p + 10) (.int .u16 x.dp)
  rw [hw] at h5
  have hB : But (fun k => k = g) w w' := by
    rw [← hw]
    exact (((((But.refl (fun k => k = g) w).setCell (p := ⟨g, _, none⟩) rfl _).setCell (p := ⟨g, _, none⟩) rfl _).setCell (p := ⟨g, _, none⟩) rfl _).setCell (p := ⟨g, _, none⟩) rfl _).setCell (p := ⟨g, _, none⟩) rfl _
  have old := fun i => (blk_cell hg i).symm
  have hF : FlAt w' g p { L.getD j f0 with o := x } := by
    obtain ⟨c0, c1, c2, c3, c4, c5, c6, c7, c8, c9, ca, cb⟩ := hfl
    rw [blk_cell hg] at c0 c1 c2 c3 c4 c5 cb
    constructor <;> rw [blk_cell h5] <;> simp [Array.getElem?_setIfInBounds, c0, c1, c2, c3, c4, c5, cb] <;> omega
  refine ⟨?_, hB, hF⟩
  refine h.put hn hj _ h5 (fun C2 hC2 => ?_) (by rw [hp]; exact hF)
  rw [hg] at hC2
  injection hC2 with e
  injection e with e
  subst e
  refine ⟨by simp, fun q hq => ?_⟩
  rw [hp] at hq
  rw [Array.getElem?_setIfInBounds_ne (by omega), Array.getElem?_setIfInBounds_ne (by omega), Array.getElem?_setIfInBounds_ne (by omega), Array.getElem?_setIfInBounds_ne (by omega), Array.getElem?_setIfInBounds_ne (by omega)]
/-- One flow is embryonic no more. -/
theorem RowV.ready {w w' : World} {T : TypeId} {g o n c : Nat} {L : TL} (h : RowV w T 12 g o n (flatF L) c) (hn : L.length = n) {j : Nat} (hj : j < n) {p : Nat} (hp : o + j * 12 = p)
    (hw : w.setCell ⟨g, p + 11, none⟩ (.bool false) = w') :
    RowV w' T 12 g o n (flatF (readyF j L)) c ∧ But (fun k => k = g) w w' := by
  have hfl := h.fl hn hj
  rw [hp] at hfl
  obtain ⟨C, hg, hs⟩ := h.flsize hn
  have hps : p + 12 ≤ C.size := by omega
  have h5 := heap_setCell_at hg (p + 11) (.bool false)
  rw [hw] at h5
  have hB : But (fun k => k = g) w w' := by
    rw [← hw]
    exact (But.refl (fun k => k = g) w).setCell (p := ⟨g, _, none⟩) rfl _
  have hF : FlAt w' g p { L.getD j f0 with em := false } := by
    obtain ⟨c0, c1, c2, c3, c4, c5, c6, c7, c8, c9, ca, cb⟩ := hfl
    rw [blk_cell hg] at c0 c1 c2 c3 c4 c5 c6 c7 c8 c9 ca
    constructor <;> rw [blk_cell h5] <;> simp [Array.getElem?_setIfInBounds, c0, c1, c2, c3, c4, c5, c6, c7, c8, c9, ca] <;> omega
  refine ⟨?_, hB⟩
  refine h.put hn hj _ h5 (fun C2 hC2 => ?_) (by rw [hp]; exact hF)
  rw [hg] at hC2
  injection hC2 with e
  injection e with e
  subst e
  exact ⟨by simp, fun q hq => by rw [hp] at hq; rw [Array.getElem?_setIfInBounds_ne (by omega)]⟩
end Go.Proofs.Ytnhlbohdlnjaaaa
