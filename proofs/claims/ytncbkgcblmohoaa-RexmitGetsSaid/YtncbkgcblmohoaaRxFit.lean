/-
  culvertlaw19's fit: a beginning brought into bounds.
-/
import Derived.Test.YtncbkgcblmohoaaRxP
import Derived.Test.YtncbkgcblmohoaaBut
import Derived.RegionTactic
namespace Go.Proofs.Ytncbkgcblmohoaa
set_option maxRecDepth 10000
open Go.RowKit
set_option linter.unusedSimpArgs false
set_option linter.unusedVariables false

theorem results_rowF {P : Program} {fn : Func} {p : Tmp} {ty : TypeId} (h : fn.results = #[.cell p ty]) (tmps : Array Value) (w : World) (g : Nat) (t : TypeId) (cs : Array Value) (fr : Nat × Nat) (d : TypeDesc)
    (hp : tmps.getD p undef = .pointer (some ⟨g, 0, none⟩)) (hg : w.heap[g]? = some (.cells cs t fr))
    (hu : P.underlying ty = some d) (hd : (match d with | .struct _ | .array _ _ => true | _ => false) = true) (hi : (P.info? ty).map (·.size) = some cs.size) :
    (results fn tmps).run P w = .ok (.agg cs) w := by
  have hp' : tmps[p]?.getD undef = .pointer (some ⟨g, 0, none⟩) := by simpa using hp
  simp [results, h, hp', asAddr, run_loadVar_row w g t ty cs fr d hg hu hd hi]
def fitW (win : Int) : Int := win % 70000
def fitR (rto : Int) : Int := 1 + rto % 50
def fitT (tries : Int) : Int := 1 + tries % 18446744073709551616 % 10
theorem fit19_any (x y r t : Int) (w : World) (hy : 0 ≤ y ∧ y < 4294967296) (hr : 0 ≤ r ∧ r < 18446744073709551616) (ht : -9223372036854775808 ≤ t ∧ t < 9223372036854775808) :
    Calls Try.prog 32 #[.agg #[.int .u32 x, .int .u32 y, .int .u64 r, .int .i64 t]] w (fun e w' => e = .returned (.agg #[.int .u32 x, .int .u32 (fitW y), .int .u64 (fitR r), .int .i64 (fitT t)]) ∧ Below w.heap.size w w') := by
  go_enter Try.func32, Try.ntmps32
  go_wp2_with fail
  have e1 : wrap64 (1 + wrap64 ((IntKind.u64.wrap t).tmod 10)) = fitT t := by
    have h0 : IntKind.u64.wrap t = t % 18446744073709551616 := by rw [IntKind.wrap_u64]
    have h1 : 0 ≤ t % 18446744073709551616 := by omega
    rw [h0, Int.tmod_eq_emod_of_nonneg h1]
    have h2 : 0 ≤ t % 18446744073709551616 % 10 ∧ t % 18446744073709551616 % 10 < 10 := by omega
    have h3 : ∀ z : Int, 0 ≤ z → z < 20 → wrap64 z = z := fun z z0 z1 => by unfold wrap64; omega
    rw [h3 _ h2.1 (by omega), h3 _ (by omega) (by omega)]
    rfl
  rw [e1]
  have hk : ∀ a b : Array Value, ((w.alloc (.cells a 25)).alloc (.cells b 25)).heap[w.heap.size + 1]? = some (.cells b 25 (0, 0)) := fun a b => by
    have := heap_alloc_new (w.alloc (.cells a 25)) (.cells b 25)
    simpa using this
  exact bodyPost_ret (v := .agg #[.int .u32 x, .int .u32 (fitW y), .int .u64 (fitR r), .int .i64 (fitT t)]) (results_rowF rfl _ _ (w.heap.size + 1) _ _ (0, 0) _ rfl (hk _ _) Try.underlying25 rfl (by kernel_rfl)) rfl ⟨rfl, ((Below.refl _ _).alloc (Nat.le_refl _) _).alloc (by simp) _⟩
end Go.Proofs.Ytncbkgcblmohoaa
