/-
  The document's own buffer (culvertref19): Send's inner loop, in memory.
-/
import Derived.Test.YtncbkgcblmohoaaRxRefTk
import Derived.Test.YtncbkgcblmohoaaRxSendP
namespace Go.Proofs.Ytncbkgcblmohoaa
set_option maxRecDepth 10000
open Go.RowKit
set_option linter.unusedSimpArgs false
set_option linter.unusedVariables false

/-- What goes on in Send's inner loop: the buffer with k bytes told, the piece's block y. -/
structure SdX (w : World) (T : Nat → Prop) (g : Nat) (A : Option Addr) (c : Nat) (first : Int) (W : List Int) (a : Nat) (s : XS) (k y : Nat) (u : Int) (Ap : Option Addr) (t cp : Nat) (l : List Int) (wr : World) : Prop where
  ref : RefX wr T g A c first W a { s with sent := k }
  bp : wr.heap[y]? = some (.cells #[.int .u32 u, .slice Ap t cp] 57 (0, 0))
  own : OwnB wr w.heap.size Ap t cp l
  all : But T w wr
section
variable {w wr : World} {T : Nat → Prop} {g c a k y t cp : Nat} {A Ap : Option Addr} {first u : Int} {W l : List Int} {s : XS}
/-- A byte more in the piece: the append's run, and what is there behind its store. -/
theorem SdX.more (h : SdX w T g A c first W a s k y u Ap t cp l wr) (hlt : ∀ k, T k → k < w.heap.size) (hy : w.heap.size ≤ y) (ht : t ≤ 100000) (x : Int) (hx : 0 ≤ x ∧ x < 256) :
    ∃ A2 c2 w7, (Builtin.append_ #[37, 37] 37 #[.slice Ap t cp, .slice (some ⟨wr.heap.size, 0, none⟩) 1 1]).run Try.prog (wr.drew.alloc (.cells #[.int .u8 x] 5)) = .ok (.slice A2 (t + 1) c2) w7 ∧
      (∀ V v, wr.cell? ⟨g, V, none⟩ = some v → w7.cell? ⟨g, V, none⟩ = some v) ∧ w7.cell? ⟨y, 1, none⟩ = some (.slice Ap t cp) ∧ w7.frozen? ⟨y, 1, none⟩ = false ∧ SdX w T g A c first W a s k y u A2 (t + 1) c2 (l ++ [x]) (w7.setCell ⟨y, 1, none⟩ (.slice A2 (t + 1) c2)) ∧
      (∀ p v, p.block < w.heap.size → wr.cell? p = some v → w7.cell? p = some v) := by
  obtain ⟨hr, bp, own, all⟩ := h
  have hbA : But (fun _ => False) wr (wr.drew.alloc (.cells #[.int .u8 x] 5)) := ((But.refl _ _).drew).alloc _
  have hsz := all.size
  have hra : Rd (wr.drew.alloc (.cells #[.int .u8 x] 5)) (some ⟨wr.heap.size, 0, none⟩) 1 [x] := Rd.one wr.drew x hx
  have hoa := own.but hbA (fun _ _ h => h)
  obtain ⟨A2, c2, w7, hrun, ho7, hg7, hb7, hat⟩ := app_run (wr.drew.alloc (.cells #[.int .u8 x] 5)) 37 w.heap.size Ap (some ⟨wr.heap.size, 0, none⟩) t cp 1 1 l [x] hoa hra (by omega) (by simp; omega)
  have hB7 : But (fun k => (Value.slice Ap t cp).ownBlock = some k) (wr.drew.alloc (.cells #[.int .u8 x] 5)) w7 := ⟨hg7.os, hg7.tape, hg7.output, hg7.size, fun k hk hn => hg7.block k hk (fun e => hn (by first | exact e | exact e.symm))⟩
  have ny := own_not own bp (by decide)
  have bp7 := hB7.blk (hbA.blk bp (fun h => h)) ny
  have old : ∀ k, k < w.heap.size → ¬ (Value.slice Ap t cp).ownBlock = some k := fun k hk e => by have := (own_ty own e).1; omega
  have hr7 := (hr.but hbA (fun _ _ h => h)).but hB7 (fun k hk => old k (hlt k hk))
  have hB8 : But (fun k => k = y) w7 (w7.setCell ⟨y, 1, none⟩ (.slice A2 (t + 1) c2)) := (But.refl (fun k => k = y) w7).setCell (p := ⟨y, 1, none⟩) rfl _
  have nxy := own_not ho7 bp7 (by decide)
  refine ⟨A2, c2, w7, hrun, fun V v hv => ?_, by rw [blk_cell bp7]; rfl, blk_free bp7 1, ⟨hr7.but hB8 (fun k hk e => by have := hlt k hk; omega), heap_setCell_at bp7 _ _, ?_, ?_⟩, fun p v hp hv => ?_⟩
  · have hgl := hlt g hr.sg
    have hgw := hr.lt g hr.sg
    exact (hB7.cell (p := ⟨g, V, none⟩) (hbA.lt hgw) (old g hgl)).trans ((hbA.cell (p := ⟨g, V, none⟩) hgw (fun h => h)).trans hv)
  · refine ⟨ho7.1, ?_⟩
    rcases ho7.2 with h0 | ⟨g2, cap, cur, e, hB, hc, hrest⟩
    · exact .inl h0
    · exact .inr ⟨g2, cap, cur, e, hB, hB8.blk hc (fun e2 => nxy (by rw [e, ← e2]; rfl)), hrest⟩
  · exact ((all.trans (hbA.mono (fun _ _ h => h.elim))).trans2 hB7 (fun k hk e => absurd e (old k hk))).trans2 hB8 (fun k hk e => by omega)
  · have hpw : p.block < wr.heap.size := by omega
    exact (hB7.cell (p := p) (hbA.lt hpw) (old p.block hp)).trans ((hbA.cell (p := p) hpw (fun h => h)).trans hv)
theorem SdX.drewN (h : SdX w T g A c first W a s k y u Ap t cp l wr) (n : Nat) : SdX w T g A c first W a s k y u Ap t cp l (wr.drewN n) := ⟨h.ref.drewN n, h.bp, h.own.drewN n, h.all.drewN n⟩
/-- Sent counted up. -/
theorem SdX.sent (h : SdX w T g A c first W a s k y u Ap t cp l wr) (hlt : ∀ k, T k → k < w.heap.size) (hy : w.heap.size ≤ y) (hk : k < s.bs.length) (x : Int) (hx : x = ((a + (k + 1) : Nat) : Int)) :
    SdX w T g A c first W a s (k + 1) y u Ap t cp l (wr.setCell ⟨g, 3, none⟩ (.int .i64 x)) := by
  subst hx
  obtain ⟨hr, bp, own, all⟩ := h
  have hgl := hlt g hr.sg
  obtain ⟨h1, h2⟩ := hr.set (s' := { s with sent := k + 1 }) 3 (.int .i64 ((a + (k + 1) : Nat) : Int)) a hr.al rfl hr.bs hr.una (by
    have ho := hr.ok
    exact { ho with sent := by show k + 1 ≤ s.bs.length; omega })
  exact ⟨h1, h2.blk bp (fun e => by omega), own.but h2 (fun q hq e => by omega), all.trans2 h2 (fun q hq e => by rw [show q = g from e]; exact hr.sg)⟩
end
end Go.Proofs.Ytncbkgcblmohoaa
