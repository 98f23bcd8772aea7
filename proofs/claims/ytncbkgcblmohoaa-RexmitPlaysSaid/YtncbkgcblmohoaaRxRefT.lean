/-
  The document's own buffer (culvertref19): Tick.
-/
import Derived.Test.YtncbkgcblmohoaaTk
import Derived.Test.YtncbkgcblmohoaaRxRefA
namespace Go.Proofs.Ytncbkgcblmohoaa
set_option maxRecDepth 10000
open Go.RowKit
set_option linter.unusedSimpArgs false
set_option linter.unusedVariables false

theorem results_rowX {P : Program} {fn : Func} {p q r : Tmp} {ty : TypeId} (h : fn.results = #[.cell p ty, .tmp q, .tmp r]) (tmps : Array Value) (w : World) (g : Nat) (t : TypeId) (cs : Array Value) (fr : Nat × Nat) (d : TypeDesc) (v u : Value)
    (hp : tmps.getD p undef = .pointer (some ⟨g, 0, none⟩)) (hv : tmps.getD q undef = v) (hu' : tmps.getD r undef = u) (hg : w.heap[g]? = some (.cells cs t fr))
    (hu : P.underlying ty = some d) (hd : (match d with | .struct _ | .array _ _ => true | _ => false) = true) (hi : (P.info? ty).map (·.size) = some cs.size) :
    (results fn tmps).run P w = .ok (.tuple #[.agg cs, v, u]) w := by
  have hp' : tmps[p]?.getD undef = .pointer (some ⟨g, 0, none⟩) := by simpa using hp
  have hv' : tmps[q]?.getD undef = v := by simpa using hv
  have hu'' : tmps[r]?.getD undef = u := by simpa using hu'
  simp [results, h, hp', hv', hu'', asAddr, run_loadVar_row w g t ty cs fr d hg hu hd hi]
def RTickX (T : Nat → Prop) (g : Nat) (first : Int) (N : Nat) (s : XS) (x : Int) (b : Bool) (er : Int) (data : List Int) (w : World) (e : Ending) (w' : World) : Prop :=
  ∃ A n c, e = .returned (.tuple #[.agg #[.int .u32 x, .slice A n c], .bool b, .int .i64 er]) ∧ data.length = n ∧ OwnB w' w.heap.size A n c data ∧ ∃ A0 c0 W a, RefX w' T g A0 c0 first W a s ∧ But T w w' ∧ W.length ≤ N
section
variable {w w' : World} {T V : Nat → Prop} {g c a : Nat} {A : Option Addr} {first : Int} {W : List Int} {s s' : XS}
theorem setz {w W : World} {z : Nat} {T : TypeId} {u0 u1 : Value} (hz : w.heap.size = z) (hb : Below w.heap.size w W) (hk : W.heap[z]? = some (.cells #[u0, u1] T (0, 0))) (v0 v1 : Value) :
    Below w.heap.size w ((W.setCell ⟨z, 0, none⟩ v0).setCell ⟨z, 1, none⟩ v1) ∧ ((W.setCell ⟨z, 0, none⟩ v0).setCell ⟨z, 1, none⟩ v1).heap[z]? = some (.cells #[v0, v1] T (0, 0)) := by
  refine ⟨(hb.setCell (by simp; omega) _).setCell (by simp; omega) _, ?_⟩
  simp [World.setCell, Array.getElem?_modify, hk]
theorem below_dX {w w1 : World} (h : Below w.heap.size w w1) (k : Nat) : Below w.heap.size w (w1.drewN k) := ⟨h.os, h.tape, h.output, h.size, h.block⟩
set_option maxHeartbeats 1000000 in
theorem rtick19_none (h : RefX w T g A c first W a s) (mss now : Int) (hn : 0 ≤ now ∧ now ≤ 4398046511104) (hk4 : ¬ tickK mss now s = 4) :
    Calls Try.prog 23 #[.pointer (some ⟨g, 0, none⟩), .int .i64 mss, .int .u64 now] w (RTickX T g first W.length (tickS mss now s) (tickA mss now s) (tickB mss now s) (tickE mss now s) (tickD mss now s) w) := by
  have H := Lib.hid h
  obtain ⟨z, ez⟩ : ∃ z, w.heap.size = z := ⟨_, rfl⟩
  have HB1 := Lib.hid (show Below w.heap.size w (w.alloc (.cells #[.int .u32 0, .slice none 0 0] 57)) from (Below.refl _ _).alloc (Nat.le_refl _) _)
  have HZ1 := Lib.hid (show (w.alloc (.cells #[.int .u32 0, .slice none 0 0] 57)).heap[z]? = some (.cells #[.int .u32 0, .slice none 0 0] 57 (0, 0)) by rw [← ez]; exact heap_alloc_new w _)
  by_cases hm : mss < 1 ∨ 1500 < mss
  · have hK : tickK mss now s = 1 := by
      unfold tickK badM
      rw [if_pos (decide_eq_true hm)]
    have HE := Lib.hid (fun W2 (hW : Below w.heap.size w W2) (hz : W2.heap[z]? = some (.cells #[.int .u32 0, .slice none 0 0] 57 (0, 0))) => show RTickX T g first W.length (tickS mss now s) (tickA mss now s) (tickB mss now s) (tickE mss now s) (tickD mss now s) w (.returned (.tuple #[.agg #[.int .u32 0, .slice none 0 0], .bool false, .int .i64 1])) W2 from by
      unfold tickS tickA tickB tickE tickD
      rw [hK]
      exact ⟨none, 0, 0, rfl, rfl, OwnB.nil _ _, A, c, W, a, H.out.on hW, But.of hW, Nat.le_refl _⟩)
    by_cases hm1 : mss < 1
    · clear h hK hm hk4 hn
      go_enter Try.func23, Try.ntmps23
      go_wp2_with fail
      exact bodyPost_ret (v := .tuple #[.agg #[.int .u32 0, .slice none 0 0], .bool false, .int .i64 1]) (results_rowX rfl _ _ z _ _ _ _ (.bool false) (.int .i64 1) rfl rfl rfl HZ1.out Try.underlying57 rfl (by kernel_rfl)) rfl (HE.out _ HB1.out HZ1.out)
    · have hm2 : 1500 < mss := by omega
      clear h hK hm hk4 hn
      go_enter Try.func23, Try.ntmps23
      go_wp2_with fail
      exact bodyPost_ret (v := .tuple #[.agg #[.int .u32 0, .slice none 0 0], .bool false, .int .i64 1]) (results_rowX rfl _ _ z _ _ _ _ (.bool false) (.int .i64 1) rfl rfl rfl HZ1.out Try.underlying57 rfl (by kernel_rfl)) rfl (HE.out _ HB1.out HZ1.out)
  · have hm1 : ¬ mss < 1 := by omega
    have hm2 : ¬ 1500 < mss := by omega
    have hbm : badM mss = false := by unfold badM; exact decide_eq_false hm
    obtain ⟨m, em⟩ : ∃ m, s.bs.length = m := ⟨_, rfl⟩
    have HL := Lib.hid (rleft19_any (h.on HB1.out))
    rw [em] at HL
    have hset : setX s = decide (0 < m) := by
      unfold setX
      cases hb : s.bs with
      | nil => rw [hb] at em; simp at em; subst em; rfl
      | cons x l => rw [hb] at em; simp at em; rw [decide_eq_true (show 0 < m by omega)]; rfl
    by_cases hm0 : m = 0
    · subst hm0
      have hK : tickK mss now s = 2 := by
        unfold tickK dueX
        rw [hbm, hset]
        simp
      have HE := Lib.hid (fun W2 (hW : Below w.heap.size w W2) (hz : W2.heap[z]? = some (.cells #[.int .u32 0, .slice none 0 0] 57 (0, 0))) => show RTickX T g first W.length (tickS mss now s) (tickA mss now s) (tickB mss now s) (tickE mss now s) (tickD mss now s) w (.returned (.tuple #[.agg #[.int .u32 0, .slice none 0 0], .bool false, .int .i64 0])) W2 from by
        unfold tickS tickA tickB tickE tickD
        rw [hK]
        exact ⟨none, 0, 0, rfl, rfl, OwnB.nil _ _, A, c, W, a, H.out.on hW, But.of hW, Nat.le_refl _⟩)
      clear h hK hm hk4 hn hbm hset em
      go_enter Try.func23, Try.ntmps23
      go_wp2_with fail
      refine HL.out.mono ?_
      rintro e w1 ⟨rfl, k, rfl⟩
      go_wp2_with fail
      have hfin := setz ez (below_dX HB1.out k) (show ((w.alloc (.cells #[.int .u32 0, .slice none 0 0] 57)).drewN k).heap[z]? = some (.cells #[.int .u32 0, .slice none 0 0] 57 (0, 0)) from HZ1.out) (.int .u32 0) (.slice none 0 0)
      exact bodyPost_ret (v := .tuple #[.agg #[.int .u32 0, .slice none 0 0], .bool false, .int .i64 0]) (results_rowX rfl _ _ z _ _ _ _ (.bool false) (.int .i64 0) rfl rfl rfl hfin.2 Try.underlying57 rfl (by kernel_rfl)) rfl (HE.out _ hfin.1 hfin.2)
    · have hne : ((m : Int) == 0) = false := by rw [beq_eq_false_iff_ne]; omega
      have hne2 : (m == 0) = false := by rw [beq_eq_false_iff_ne]; omega
      have c8 := (h.on HB1.out).c8
      by_cases hal : now < s.alarm
      · have hK : tickK mss now s = 2 := by
          unfold tickK dueX
          rw [hbm, hset, decide_eq_false (show ¬ s.alarm ≤ now by omega)]
          simp
        have HE := Lib.hid (fun W2 (hW : Below w.heap.size w W2) (hz : W2.heap[z]? = some (.cells #[.int .u32 0, .slice none 0 0] 57 (0, 0))) => show RTickX T g first W.length (tickS mss now s) (tickA mss now s) (tickB mss now s) (tickE mss now s) (tickD mss now s) w (.returned (.tuple #[.agg #[.int .u32 0, .slice none 0 0], .bool false, .int .i64 0])) W2 from by
          unfold tickS tickA tickB tickE tickD
          rw [hK]
          exact ⟨none, 0, 0, rfl, rfl, OwnB.nil _ _, A, c, W, a, H.out.on hW, But.of hW, Nat.le_refl _⟩)
        obtain ⟨al, eal⟩ : ∃ x, s.alarm = x := ⟨_, rfl⟩
        rw [eal] at c8 hal
        clear h hK hm hk4 hn hbm hset em hm0 eal
        go_enter Try.func23, Try.ntmps23
        go_wp2_with fail
        refine HL.out.mono ?_
        rintro e w1 ⟨rfl, k, rfl⟩
        go_wp2_with fail
        have hfin := setz ez (below_dX HB1.out k) (show ((w.alloc (.cells #[.int .u32 0, .slice none 0 0] 57)).drewN k).heap[z]? = some (.cells #[.int .u32 0, .slice none 0 0] 57 (0, 0)) from HZ1.out) (.int .u32 0) (.slice none 0 0)
        exact bodyPost_ret (v := .tuple #[.agg #[.int .u32 0, .slice none 0 0], .bool false, .int .i64 0]) (results_rowX rfl _ _ z _ _ _ _ (.bool false) (.int .i64 0) rfl rfl rfl hfin.2 Try.underlying57 rfl (by kernel_rfl)) rfl (HE.out _ hfin.1 hfin.2)
      · have hcnt : s.tries ≤ s.count := by
          rcases Int.lt_or_le s.count s.tries with h1 | h1
          · refine absurd ?_ hk4
            unfold tickK dueX
            rw [hbm, hset, decide_eq_true (show s.alarm ≤ now by omega), decide_eq_true (show 0 < m by omega), if_neg (by simp), if_neg (by simp), if_neg (by omega)]
          · exact h1
        have hK : tickK mss now s = 3 := by
          unfold tickK dueX
          rw [hbm, hset, decide_eq_true (show s.alarm ≤ now by omega), decide_eq_true (show 0 < m by omega), if_neg (by simp), if_neg (by simp), if_pos hcnt]
        have HE := Lib.hid (fun W2 (hW : Below w.heap.size w W2) (hz : W2.heap[z]? = some (.cells #[.int .u32 0, .slice none 0 0] 57 (0, 0))) => show RTickX T g first W.length (tickS mss now s) (tickA mss now s) (tickB mss now s) (tickE mss now s) (tickD mss now s) w (.returned (.tuple #[.agg #[.int .u32 0, .slice none 0 0], .bool false, .int .i64 7])) W2 from by
          unfold tickS tickA tickB tickE tickD
          rw [hK]
          exact ⟨none, 0, 0, rfl, rfl, OwnB.nil _ _, A, c, W, a, H.out.on hW, But.of hW, Nat.le_refl _⟩)
        have c6 := (h.on HB1.out).c6
        have c9 := (h.on HB1.out).c9
        obtain ⟨al, eal⟩ : ∃ x, s.alarm = x := ⟨_, rfl⟩
        obtain ⟨tr, etr⟩ : ∃ x, s.tries = x := ⟨_, rfl⟩
        obtain ⟨cn, ecn⟩ : ∃ x, s.count = x := ⟨_, rfl⟩
        rw [eal] at c8 hal
        rw [etr] at c6 hcnt
        rw [ecn] at c9 hcnt
        have HC := Lib.hid (And.intro c6 c9)
        clear h hK hm hk4 hn hbm hset em hm0 eal etr ecn c6 c9
        go_enter Try.func23, Try.ntmps23
        go_wp2_with fail
        refine HL.out.mono ?_
        rintro e w1 ⟨rfl, k, rfl⟩
        go_wp2_with fail
        refine wp_region_held_drew (S := fun w' => w'.cell? ⟨g, 6, none⟩ = some (.int .i64 tr) ∧ w'.cell? ⟨g, 9, none⟩ = some (.int .i64 cn)) (by kernel_rfl) (by exact HC.out) (fun hHeld => ?_)
        refine tk 0 ?_ rfl ?_ ?_
        rotate_left
        · intro w' hSw; (go_simp <;> (with_reducible rfl))
        try simp only [Act.put, putL]
        refine tk 1 ?_ rfl ?_ ?_
        rotate_left
        · intro w' hSw; (go_simp <;> (with_reducible rfl))
        try simp only [Act.put, putL]
        refine tk 2 ?_ rfl ?_ ?_
        rotate_left
        · intro w' hSw; (go_simp <;> (with_reducible rfl))
        try simp only [Act.put, putL]
        refine tk 3 ?_ rfl ?_ ?_
        rotate_left
        · intro w' hSw; (go_simp <;> (with_reducible rfl))
        try simp only [Act.put, putL]
        refine tk 4 ?_ rfl ?_ ?_
        rotate_left
        · intro w' hSw; (go_simp <;> (with_reducible rfl))
        try simp only [Act.put, putL]
        refine tk 5 ?_ rfl ?_ ?_
        rotate_left
        · intro w' hSw; (go_simp <;> (with_reducible rfl))
        try simp only [Act.put, putL]
        refine tk 6 ?_ rfl ?_ ?_
        rotate_left
        · intro w' hSw; (go_simp <;> (with_reducible rfl))
        try simp only [Act.put, putL]
        refine tk 7 ?_ rfl ?_ ?_
        rotate_left
        · intro w' hSw; (go_simp <;> (with_reducible rfl))
        try simp only [Act.put, putL]
        refine tk 8 ?_ rfl ?_ ?_
        rotate_left
        · intro w' hSw; (go_simp <;> (with_reducible rfl))
        try simp only [Act.put, putL]
        refine wpAnyH_done (by kernel_rfl) ?_ _
        clear hHeld
        go_wp2_with fail
        have hfin := setz ez (below_dX HB1.out (k + 1)) (show ((w.alloc (.cells #[.int .u32 0, .slice none 0 0] 57)).drewN (k + 1)).heap[z]? = some (.cells #[.int .u32 0, .slice none 0 0] 57 (0, 0)) from HZ1.out) (.int .u32 0) (.slice none 0 0)
        exact bodyPost_ret (v := .tuple #[.agg #[.int .u32 0, .slice none 0 0], .bool false, .int .i64 7]) (results_rowX rfl _ _ z _ _ _ _ (.bool false) (.int .i64 7) rfl rfl rfl hfin.2 Try.underlying57 rfl (by kernel_rfl)) rfl (HE.out _ hfin.1 hfin.2)
end
end Go.Proofs.Ytncbkgcblmohoaa
