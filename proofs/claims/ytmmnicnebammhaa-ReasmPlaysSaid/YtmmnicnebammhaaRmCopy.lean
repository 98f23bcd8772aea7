/-
  A buffer of the program's: Copy.
-/
import Derived.Test.YtmmnicnebammhaaRmTell
import Derived.Shelf.SlMaps.Clone
namespace Go.Proofs.Ytmmnicnebammhaa
set_option maxRecDepth 10000
open Go.RowKit
set_option linter.unusedSimpArgs false
set_option linter.unusedVariables false

def MapCopiedB (m2 : Nat) (K : Int → Prop) (R : Int → Value) (w : World) (e : Ending) (w' : World) : Prop := e = .returned (.map (some m2)) ∧ MBP w' m2 K R ∧ Below w.heap.size w w'
theorem mcloneB_any (m z : Nat) (K : Int → Prop) (R : Int → Value) (w : World) (h : MBP w m K R) (hz : w.heap.size = z) : Calls Try.prog 29 #[.map (some m)] w (MapCopiedB z K R w) := by
  obtain ⟨es, clock, hm⟩ := h
  have hrun := run_maps_clone_sl (P := Try.prog) w 57 hm.at_
  rw [hz] at hrun
  have HM := Lib.hid (show MapCopiedB z K R w (.returned (.map (some z))) (w.alloc (.map es clock)) from
    ⟨rfl, ⟨es, clock, by rw [← hz]; exact heap_alloc_new w _, hm.st, hm.ent, hm.key⟩, (Below.refl _ _).alloc (Nat.le_refl _) _⟩)
  have hq := fun W => run_eql_map_nil_sl (P := Try.prog) W 57 _ _ (some m) Try.underlying57
  have Hrun := Lib.hid hrun
  clear hm hrun hz
  go_enter Try.func29, Try.ntmps29
  go_wp2_with fail
  rw [run_callFunc_extern Try.func36 (by kernel_rfl) (by kernel_rfl) (by kernel_rfl) (e := Extern.MapsClone.clone) (by kernel_rfl), Hrun.out]
  simp only [Result.andThen]
  rw [Oper.upon_value]
  go_wp2_with fail
  rw [run_typeAssert_map_sl _ 57 20 _ _ _ Try.underlying57]
  simp only [Result.andThen]
  rw [Oper.upon_value]
  go_wp2_with fail
  go_ret
  exact HM.out
set_option maxHeartbeats 1000000 in
theorem copy_mem (S : Nat → Prop) (g m nx : Nat) (st at_ : Int) (L : BL) (w : World) (h : RMem w S g m nx st L) (hat : num32 (st + (nx : Int)) = at_) (hh : (heldB L).length ≤ 16) :
    Calls Try.prog 15 #[.pointer (some ⟨g, 0, none⟩)] w (BCopies RmAt S g at_ L w) := by
  have Hno := Lib.hid (bnone_no g w h.k0)
  have k0 := h.k0
  have k1 := h.k1
  have k2 := h.k2
  have k3 := h.k3
  have k4 := h.k4
  obtain ⟨z, ez⟩ : ∃ z, w.heap.size = z := ⟨_, rfl⟩
  obtain ⟨e, ee⟩ : ∃ e, nx + L.length = e := ⟨_, rfl⟩
  rw [ee] at k3
  have hgz : ¬ g = z := by have := h.lt g h.sg; omega
  obtain ⟨w1, ew1⟩ : ∃ w1, w.alloc (.cells #[.pointer (some ⟨z, 0, none⟩), .int .u32 st, .int .i64 (nx : Int), .int .i64 (e : Int), .map (some m)] 59) = w1 := ⟨_, rfl⟩
  have hB1 : Below w.heap.size w w1 := by rw [← ew1]; exact (Below.refl _ _).alloc (Nat.le_refl _) _
  have hbox1 : w1.heap[z]? = some (.cells #[.pointer (some ⟨z, 0, none⟩), .int .u32 st, .int .i64 (nx : Int), .int .i64 (e : Int), .map (some m)] 59 (0, 0)) := by rw [← ew1, ← ez]; exact heap_alloc_new w _
  have hm1 := h.on hB1
  have hs1 : w1.heap.size = z + 1 := by rw [← ew1]; simp [ez]
  have k41 := hm1.k4
  have Hcl := Lib.hid (mcloneB_any m (z + 1) _ _ w1 hm1.map hs1)
  have H := Lib.hid (And.intro h (And.intro hat (And.intro hh (And.intro ez ee))))
  have HB1 := Lib.hid hB1
  have HBox1 := Lib.hid hbox1
  have Ew1 := Lib.hid ew1
  have Hs1 := Lib.hid hs1
  clear h hat hh hB1 hbox1 hm1 hs1 ew1 ee
  go_enter Try.func15, Try.ntmps15
  go_upto_region 5 with (go_at_call 23; refine Hno.out.mono ?_; rintro e w' ⟨rfl, rfl⟩)
  rw [Ew1.out]
  clear k0 k1 k2 k3 k4
  go_wp2_with fail
  refine Hcl.out.mono ?_
  rintro e2 w2 ⟨rfl, hmap, hB2⟩
  have hbox2 := blk_on HBox1.out hB2
  have c4 : w2.cell? ⟨z, 4, none⟩ = some (.map (some m)) := by rw [blk_cell hbox2]; rfl
  have f4 := blk_free hbox2 4
  have HD := Lib.hid (show BCopies RmAt S g at_ L w (.returned (.pointer (some ⟨z, 0, none⟩))) (w2.setCell ⟨z, 4, none⟩ (.map (some (z + 1)))) from by
    obtain ⟨h, hat, hh, ez, ee⟩ := H.out
    have hs1 := Hs1.out
    have hB3 : But (fun k => k = z) w2 (w2.setCell ⟨z, 4, none⟩ (.map (some (z + 1)))) := (But.refl (fun k => k = z) w2).setCell (p := ⟨z, 4, none⟩) rfl _
    have hb3 : Below w.heap.size w (w2.setCell ⟨z, 4, none⟩ (.map (some (z + 1)))) := (below_trans HB1.out hB2).trans (hB3.below (fun k hk => by omega) (by have := HB1.out.size; have := hB2.size; omega))
    have hmlt := hmap.lt
    have hzlt := lt_of_block hbox2
    refine ⟨z, S, fun k => k = z ∨ k = z + 1, rfl, ⟨m, nx, st, h.on hb3, hat, hh⟩, ⟨z + 1, nx, st, ⟨?_, ?_, h.stb, h.room, h.byte, .inl rfl, .inr rfl, fun k hk => ?_⟩, hat, hh⟩, But.of hb3, fun k hk => .inl hk, fun k hk => by omega, fun k hk hk2 => by have := h.lt k hk; omega⟩
    · rw [ee]; exact heap_setCell_at hbox2 _ _
    · exact hmap.but hB3 (by omega)
    · have := hB3.size
      omega)
  clear hmap hB2 hbox2
  go_wp2_with fail
  go_ret
  exact HD.out
end Go.Proofs.Ytmmnicnebammhaa
