/-
  What the walks of wheel's laws know between two calls: wheels apart, an argument that reads as it did.
-/
import Derived.Test.YtlpgabbnldalhaaWhMany
import Derived.Test.YtlpgabbnldalhaaWhOpen
import Derived.Test.YtlpgabbnldalhaaWhlFace
namespace Go.Proofs.Ytlpgabbnldalhaa
set_option maxRecDepth 10000
open Go.RowKit
set_option linter.unusedSimpArgs false
set_option linter.unusedVariables false

def zOld (w : World) : Nat → Prop := fun k => k < w.heap.size
/-- Wheels ws in no block of Z, behind w. -/
structure Tks (Z : Nat → Prop) (w : World) (ws : WL) (wr : World) : Prop where
  m : Many WAtP Z wr ws
  b : Below w.heap.size w wr
  z : ∀ k, k < w.heap.size → Z k
theorem Tks.first (w : World) : Tks (zOld w) w [] w := ⟨Many.none_ w, Below.refl _ _, fun k hk => hk⟩
theorem Tks.go {Z Z' : Nat → Prop} {w : World} {ws ws' : WL} {wr w' : World} (h : Tks Z w ws wr) (hm : Many WAtP Z' w' ws') (hb : But (fun k => ¬ Z k) wr w') (hz : ∀ k, Z k → Z' k) : Tks Z' w ws' w' :=
  ⟨hm, h.b.trans (hb.below (fun k hk => by rcases Nat.lt_or_ge k w.heap.size with x | x; exact absurd (h.z k x) hk; exact x) h.b.size), fun k hk => hz k (h.z k hk)⟩
theorem below_drewZ {B : Nat} {a b : World} (h : Below B a b) (m : Nat) : Below B a (b.drewN m) := ⟨h.os, h.tape, h.output, h.size, h.block⟩
theorem Tks.drewN {Z : Nat → Prop} {w : World} {ws : WL} {wr : World} (h : Tks Z w ws wr) (m : Nat) : Tks Z w ws (wr.drewN m) :=
  ⟨h.m.but face (T := fun _ => False) ((But.refl _ _).drewN m) (fun _ x => x.elim), below_drewZ h.b m, h.z⟩
theorem Tks.sub {Z Z' : Nat → Prop} {w : World} {ws : WL} {wr : World} (h : Tks Z w ws wr) (hz : ∀ k, Z' k → Z k) (hz0 : ∀ k, k < w.heap.size → Z' k) : Tks Z' w ws wr := ⟨h.m.sub hz, h.b, hz0⟩
theorem sl_kept {Z : Nat → Prop} {w w' : World} {T : TypeId} {kd : IntKind} {v : Value} {l : List Int} (h : Sl w T kd v l) (hb : But (fun k => ¬ Z k) w w') (hz : ∀ b, v.ownBlock = some b → Z b) : Sl w' T kd v l :=
  h.but hb (fun b hb' hn => hn (hz b hb'))
theorem sl_drewN {w : World} {T : TypeId} {kd : IntKind} {v : Value} {l : List Int} (h : Sl w T kd v l) (m : Nat) : Sl (w.drewN m) T kd v l := h.but ((But.refl (fun _ => False) w).drewN m) (fun _ _ x => x)
end Go.Proofs.Ytlpgabbnldalhaa
