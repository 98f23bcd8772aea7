/-
  Calls of no buffer of the program's, or of one that New did not make; a call's bytes laid just now, beside several buffers.
-/
import Derived.Test.YtmmnicnebammhaaRmMem
import Derived.Test.YtmmnicnebammhaaRmStep
namespace Go.Proofs.Ytmmnicnebammhaa
set_option maxRecDepth 10000
open Go.RowKit
set_option linter.unusedSimpArgs false
set_option linter.unusedVariables false
variable {BAt : BA}

/-- Whatever is laid meanwhile: none of New's. -/
def NoB (pa : Option Addr) (w : World) : Prop := ∀ W, Below w.heap.size w W → Calls Try.prog 23 #[.pointer pa] W (JustR (.bool true) W)
theorem NoB.nil (w : World) : NoB none w := fun W _ => bnone_nil W
theorem NoB.zero {w : World} {z : Nat} {C : Array Value} {T : TypeId} {fr : Nat × Nat} (h : w.heap[z]? = some (.cells C T fr)) (h0 : C[0]? = some (.pointer none)) : NoB (some ⟨z, 0, none⟩) w := fun W hW => bnone_zero z W (by rw [blk_cell (blk_on h hW)]; exact h0)
theorem NoB.on {pa : Option Addr} {w w' : World} (h : NoB pa w) (hb : Below w.heap.size w w') : NoB pa w' := fun W hW => h W (below_trans hb hW)
section
variable {pa : Option Addr} {w : World} (h : NoB pa w)
include h
theorem put_none (a : Int) (s : Value) : Calls Try.prog 11 #[.pointer pa, .int .u32 a, s] w (JustR (.tuple #[.int .i64 0, .int .i64 2]) w) := by
  have H := Lib.hid (h w (Below.refl _ _))
  clear h
  go_enter Try.func11, Try.ntmps11
  go_wp2_with (go_at_call 23; refine H.out.mono ?_; rintro e w' ⟨rfl, rfl⟩)
  go_ret2
  exact ⟨rfl, rfl⟩
theorem take_none : Calls Try.prog 13 #[.pointer pa] w (JustR (.slice none 0 0) w) := by
  have H := Lib.hid (h w (Below.refl _ _))
  clear h
  go_enter Try.func13, Try.ntmps13
  go_wp2_with (go_at_call 23; refine H.out.mono ?_; rintro e w' ⟨rfl, rfl⟩)
  go_ret
  exact ⟨rfl, rfl⟩
theorem next_none : Calls Try.prog 16 #[.pointer pa] w (JustR (.int .u32 0) w) := by
  have H := Lib.hid (h w (Below.refl _ _))
  clear h
  go_enter Try.func16, Try.ntmps16
  go_wp2_with (go_at_call 23; refine H.out.mono ?_; rintro e w' ⟨rfl, rfl⟩)
  go_ret
  exact ⟨rfl, rfl⟩
theorem room_none : Calls Try.prog 17 #[.pointer pa] w (JustR (.int .i64 0) w) := by
  have H := Lib.hid (h w (Below.refl _ _))
  clear h
  go_enter Try.func17, Try.ntmps17
  go_wp2_with (go_at_call 23; refine H.out.mono ?_; rintro e w' ⟨rfl, rfl⟩)
  go_ret
  exact ⟨rfl, rfl⟩
theorem ready_none : Calls Try.prog 18 #[.pointer pa] w (JustR (.int .i64 0) w) := by
  have H := Lib.hid (h w (Below.refl _ _))
  clear h
  go_enter Try.func18, Try.ntmps18
  go_wp2_with (go_at_call 23; refine H.out.mono ?_; rintro e w' ⟨rfl, rfl⟩)
  go_ret
  exact ⟨rfl, rfl⟩
theorem held_none : Calls Try.prog 21 #[.pointer pa] w (fun e w' => e = .returned (.slice none 0 0) ∧ Below w.heap.size w w') := by
  have hb : Below w.heap.size w (w.alloc (.cells #[.pointer pa] 24)) := (Below.refl _ _).alloc (Nat.le_refl _) _
  have H := Lib.hid (h _ hb)
  have Hb := Lib.hid hb
  clear h hb
  go_enter Try.func21, Try.ntmps21
  go_wp2_with (go_at_call 23; refine H.out.mono ?_; rintro e w' ⟨rfl, rfl⟩)
  go_ret
  exact ⟨rfl, Hb.out⟩
theorem copy_none : Calls Try.prog 15 #[.pointer pa] w (JustR (.pointer none) w) := by
  have H := Lib.hid (h w (Below.refl _ _))
  clear h
  go_enter Try.func15, Try.ntmps15
  go_wp2_with (go_at_call 23; refine H.out.mono ?_; rintro e w' ⟨rfl, rfl⟩)
  go_ret
  exact ⟨rfl, rfl⟩
end
/-- Put of bytes that the walk has just laid. -/
theorem sput_lit (F : BFace BAt) (Z : Nat → Prop) (i g : Nat) (ck : Int) (L : BL) (ws ws' : ML) (w0 w : World) (h : At18 BAt Z w0 ws w) (hi : ws[i]? = some (g, ck, L)) (z : Nat) (hz : w.heap.size = z) (a : Int) (l : List Int) (k : Nat) (hk : l.length = k) (d : Int) (L' : BL) (m : Nat) (x : Int)
    (ha : 0 ≤ a ∧ a < 4294967296) (hl : ∀ y ∈ l, 0 ≤ y ∧ y < 256) (hn : k ≤ 100000) (hd : diffB a ck = d) (hL : putQ d l L = L') (hm : putN d l L = m) (hx : putE d l L = x) (hws : ws.set i (g, ck, L') = ws') :
    Calls Try.prog 11 #[.pointer (some ⟨g, 0, none⟩), .int .u32 a, .slice (some ⟨z, 0, none⟩) k k] (w.alloc (.cells (l.map (Value.int .u8)).toArray 5)) (SDo BAt Z w0 ws' (.tuple #[.int .i64 (m : Int), .int .i64 x]) w) := by
  subst hz; subst hk
  have hr : Rd (w.alloc (.cells (l.map (Value.int .u8)).toArray 5)) (some ⟨w.heap.size, 0, none⟩) l.length l := Rd.const_ w w.heap.size rfl l _ _ hl
  refine (rput F _ i g ck L ws ws' _ (h.many.alloc F (.cells (l.map (Value.int .u8)).toArray 5)) hi a _ l.length l.length l d L' m x ha hr hn (Nat.le_refl _) (Nat.le_trans hn (by simp [maxLen])) (fun b o e _ => by injection e with e; injection e with e; exact .inr e.symm) hd hL hm hx hws).mono ?_
  rintro e w' ⟨rfl, h1, h2⟩
  have hb : But (fun k => ¬ Z k) w w' := ((But.refl (fun k => ¬ Z k) w).alloc (.cells (l.map (Value.int .u8)).toArray 5)).trans2 h2 (fun k hk hn hz => hn (.inl hz))
  exact ⟨rfl, ⟨h1.sub (fun k hk => .inl hk), belR hb h.base h.old, h.old⟩, hb⟩
end Go.Proofs.Ytmmnicnebammhaa
