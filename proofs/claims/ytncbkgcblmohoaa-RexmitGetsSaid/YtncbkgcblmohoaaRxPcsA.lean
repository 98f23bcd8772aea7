/-
  A piece more in a law's own slice of pieces; Tick's piece with its row.
-/
import Derived.Test.YtncbkgcblmohoaaRxPcs
namespace Go.Proofs.Ytncbkgcblmohoaa
set_option maxRecDepth 10000
open Go.RowKit
set_option linter.unusedSimpArgs false
set_option linter.unusedVariables false
variable {XAt : XA}

theorem info_pieceA : (Try.prog.info? 54).map (fun i => (i.zero, i.size, i.bytes)) = some (some (.agg #[.int .u32 0, .slice none 0 0]), 2, 32) := by kernel_rfl
theorem own_notA {w : World} {B n c k : Nat} {A : Option Addr} {l : List Int} {C : Array Value} {T : TypeId} {fr : Nat × Nat} (h : OwnB w B A n c l) (hk : w.heap[k]? = some (.cells C T fr)) (hT : 5 ≠ T) : ¬ (Value.slice A n c).ownBlock = some k := by
  intro hb
  rcases h.2 with ⟨e, _⟩ | ⟨g2, cap, cur, e, hB, hg, _⟩
  · rw [e] at hb; cases hb
  · rw [e] at hb
    injection hb with hb
    have hb : g2 = k := hb
    subst hb
    rw [hg] at hk
    injection hk with hk
    injection hk with _ hk
    exact hT hk
theorem pcs_app {w : World} {B m c2 : Nat} {A2 : Option Addr} {qs : List PQ} (h : PcsX w 54 B (.slice A2 m c2) qs) (hm : qs.length = m) (hml : m ≤ 100000) (hB : B ≤ w.heap.size) (u : Int) (Ap : Option Addr) (t cp : Nat) (l : List Int) (ho : OwnB w B Ap t cp l) :
    ∃ A3 c3 w3, (Builtin.append_ #[41, 41] 41 #[.slice A2 m c2, .slice (some ⟨w.heap.size, 0, none⟩) 1 1]).run Try.prog (w.alloc (.cells #[.int .u32 u, .slice Ap t cp] 54)) = .ok (.slice A3 (m + 1) c3) w3 ∧
      PcsX w3 54 B (.slice A3 (m + 1) c3) (qs ++ [⟨u, Ap, cp, l⟩]) ∧ But (fun b => (Value.slice A2 m c2).ownBlock = some b) w w3 ∧ ((Value.slice A3 (m + 1) c3).ownBlock = (Value.slice A2 m c2).ownBlock ∨ (Value.slice A3 (m + 1) c3).ownBlock = some (w.heap.size + 1)) := by
  have hlen := ho.len
  subst hlen
  have hB12 : But (fun _ => False) w (w.alloc (.cells #[.int .u32 u, .slice Ap l.length cp] 54)) := (But.refl _ _).alloc _
  have hown : ∀ b, (Value.slice A2 m c2).ownBlock = some b → B ≤ b := h.own
  have hsl2 := h.sl.but hB12 (fun _ _ e => e)
  rw [hm] at hsl2
  obtain ⟨A3, c3, w3, hrun, hs3, hb3, ho3, -⟩ := sv_app (P := Try.prog) (w.alloc (.cells #[.int .u32 u, .slice Ap l.length cp] 54)) 41 41 54 (.agg #[.int .u32 0, .slice none 0 0]) 2 32 Try.underlying41 info_pieceA (by omega) rfl
    (.slice A2 m c2) (.slice (some ⟨w.heap.size, 0, none⟩) 1 1) m 1 (flatQ qs) (flatQ [⟨u, Ap, cp, l⟩]) hsl2 (RowV.one 54 (flatQ [⟨u, Ap, cp, l⟩]) w.heap.size rfl rfl) (by intro x hx; simp [flatQ] at hx; rcases hx with rfl | rfl <;> rfl) (by omega)
  have hs12 : (w.alloc (.cells #[.int .u32 u, .slice Ap l.length cp] 54)).heap.size = w.heap.size + 1 := by simp
  have rowOk : ∀ q ∈ qs ++ [⟨u, Ap, cp, l⟩], OwnB w3 B q.A q.data.length q.c q.data := by
    intro q hq
    have h2 : OwnB (w.alloc (.cells #[.int .u32 u, .slice Ap l.length cp] 54)) B q.A q.data.length q.c q.data := by
      rcases List.mem_append.1 hq with h5 | h5
      · exact (h.rows q h5).but hB12 (fun _ _ e => e)
      · rw [List.mem_singleton] at h5
        subst h5
        exact ho.but hB12 (fun _ _ e => e)
    refine own_on2 h2 hb3 (fun b hb5 e => ?_)
    rcases hsl2 with ⟨e2, _⟩ | ⟨g2, o2, c5, e2, C, hC, _⟩
    · rw [e2] at e; cases e
    · rw [e2] at e
      have e : g2 = b := by simpa [Value.ownBlock] using e
      subst e
      exact own_notA h2 hC (by decide) hb5
  refine ⟨A3, c3, w3, hrun, ⟨?_, rowOk, fun b hb5 => ?_⟩, (hB12.mono (fun _ _ e => e.elim)).trans hb3, by rw [hs12] at ho3; exact ho3⟩
  · rw [List.length_append, hm, flatQ_app]
    exact hs3
  · rcases ho3 with e | e
    · exact hown b (by rw [← e]; exact hb5)
    · rw [e] at hb5
      injection hb5 with hb5
      omega
theorem ytickO {f : Nat} {args : Array Value} {Z : Nat → Prop} {w0 w : World} {ws : MX} {x : Int} {is : Bool} {er : Int} {l : List Int} (h : Calls Try.prog f args w (YTick XAt Z w0 ws x is er l w)) (m : Nat) (hm : l.length = m) :
    Calls Try.prog f args w (fun e w' => ∃ A c, ∃ Z' : Nat → Prop, e = .returned (.tuple #[.agg #[.int .u32 x, .slice A m c], .bool is, .int .i64 er]) ∧ OwnB w' w.heap.size A m c l ∧ AtX XAt Z' w0 ws w' ∧ But (fun k => ¬ Z k) w w' ∧ (∀ q, Z q → Z' q) ∧ ∀ b, (Value.slice A m c).ownBlock = some b → Z' b) := by
  refine h.mono ?_
  rintro e w' ⟨A, n, c, rfl, h0, h1, h2, h3⟩
  obtain rfl : m = n := hm.symm.trans h0
  exact ⟨A, c, _, rfl, h1, h2, h3, fun q hq => .inl hq, fun b hb => .inr hb⟩
end Go.Proofs.Ytncbkgcblmohoaa
