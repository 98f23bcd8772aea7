/-
  The contract of package wheel's Tick.
-/
import Derived.Test.YtlpgabbnldalhaaWhlDue
namespace Go.Proofs.Ytlpgabbnldalhaa
set_option maxRecDepth 10000
open Go.RowKit
set_option linter.unusedSimpArgs false
set_option linter.unusedVariables false

/-- What the walk of Tick knows when i of the alarms that are due have been told. -/
structure TickAt (S : Nat → Prop) (g m : Nat) (ck : Int) (sl : Nat → AL) (K : Int → Prop) (R : Int → Value) (w : World) (A : Option Addr) (c : Nat) (M : AL) (Cj : Array Value) (hj : Nat → Value) (i : Nat) (v : Value) (wr : World) : Prop where
  row : SlV wr 65 2 (.slice A M.length c) M.length (flatA M)
  own : ∀ b, (Value.slice A M.length c).ownBlock = some b → w.heap.size ≤ b
  ids : Sl wr 23 .u64 v ((M.take i).map Prod.fst)
  vown : ∀ b, v.ownBlock = some b → w.heap.size ≤ b
  mem : WMem wr S g m Cj hj ck sl (fun e => K e ∧ e ∉ (M.take i).map Prod.fst) R
  but : But S w wr
/-- The clock goes on. -/
theorem WMem.clock {w : World} {S : Nat → Prop} {g m : Nat} {C : Array Value} {hs : Nat → Value} {ck : Int} {sl : Nat → AL} {K : Int → Prop} {R : Int → Value} (h : WMem w S g m C hs ck sl K R) (now : Int) :
    WMem (w.setCell ⟨g, 1, none⟩ (.int .u64 now)) S g m (C.setIfInBounds 1 (.int .u64 now)) hs now sl K R ∧ But S w (w.setCell ⟨g, 1, none⟩ (.int .u64 now)) := by
  have hB : But (fun k => k = g) w (w.setCell ⟨g, 1, none⟩ (.int .u64 now)) := (But.refl (fun k => k = g) w).setCell (p := ⟨g, 1, none⟩) rfl _
  refine ⟨⟨heap_setCell_at h.box _ _, by simpa using h.size, ?_, ?_, ?_, fun j hj => ?_, h.map.but hB (fun e => h.gm e.symm), fun j hj => (h.row j hj).but hB (fun b hb e => h.gr hj hb e.symm), h.apart, h.sg, h.sm, h.sr, fun k hk => hB.lt (h.lt k hk)⟩, hB.mono (fun k _ e => e ▸ h.sg)⟩
  · rw [Array.getElem?_setIfInBounds_ne (by omega)]; exact h.c0
  · simp [h.size]
  · rw [Array.getElem?_setIfInBounds_ne (by omega)]; exact h.c2
  · rw [Array.getElem?_setIfInBounds_ne (by omega)]; exact h.cs j hj
theorem Sl.blk {w : World} {T : TypeId} {k : IntKind} {v : Value} {l : List Int} (h : Sl w T k v l) {b : Nat} (hb : v.ownBlock = some b) : ∃ C, w.heap[b]? = some (.cells C T (0, 0)) := by
  rcases h with ⟨rfl, _⟩ | ⟨g', o, c, rfl, C, h, _⟩
  · cases hb
  · injection hb with e
    subst e
    exact ⟨C, h⟩
theorem tick_step {S : Nat → Prop} {g m : Nat} {ck : Int} {sl : Nat → AL} {K : Int → Prop} {R : Int → Value} {w : World} {A : Option Addr} {c : Nat} {M : AL} {Cj : Array Value} {hj : Nat → Value} {i : Nat} {v : Value} {wr : World} (h : TickAt S g m ck sl K R w A c M Cj hj i v wr)
    (hlt : ∀ k, S k → k < w.heap.size) (hK : ∀ a, a ∈ M → K a.1) (hnd : (M.map Prod.fst).Nodup) (hin : i < M.length) (hb : M.length ≤ 1000000) (a : Int × Int) (ea : M.getD i (0, 0) = a) :
    ∃ wa wb wd v4 w5, wr.alloc (.cells #[.int .u64 a.2, .int .u64 a.1] 65) = wa ∧ wa.drew = wb ∧ (Builtin.delete_ #[51, 23] 0 #[.map (some m), .int .u64 a.1]).run Try.prog wb = .ok (.tuple #[]) wd ∧
      ((wb.cell? ⟨wr.heap.size, 0, none⟩ = some (.int .u64 a.2) ∧ wb.cell? ⟨wr.heap.size, 1, none⟩ = some (.int .u64 a.1)) ∧ wb.cell? ⟨g, 2, none⟩ = some (.map (some m))) ∧
      ((wd.cell? ⟨wr.heap.size, 0, none⟩ = some (.int .u64 a.2) ∧ wd.cell? ⟨wr.heap.size, 1, none⟩ = some (.int .u64 a.1)) ∧ wd.cell? ⟨g, 2, none⟩ = some (.map (some m))) ∧
      (Builtin.append_ #[37, 37] 37 #[v, .slice (some ⟨wd.heap.size, 0, none⟩) 1 1]).run Try.prog (wd.alloc (.cells #[.int .u64 a.1] 23)) = .ok v4 w5 ∧
      ∃ Cj' hj', TickAt S g m ck sl K R w A c M Cj' hj' (i + 1) v4 w5 := by
  obtain ⟨hrow, hown, hids, hvo, hW, hB⟩ := h
  have hma : a ∈ M := by rw [← ea]; simp only [List.getD, List.getElem?_eq_getElem hin, Option.getD_some]; exact List.getElem_mem _
  have htk : M.take (i + 1) = M.take i ++ [a] := by
    rw [List.take_succ_eq_append_getElem hin]
    congr 2
    rw [← ea]
    simp [List.getD, hin]
  have hni : a.1 ∉ (M.take i).map Prod.fst := by
    intro h1
    have h2 : (M.map Prod.fst) = (M.take i).map Prod.fst ++ (M.drop i).map Prod.fst := by rw [← List.map_append, List.take_append_drop]
    rw [h2, List.nodup_append] at hnd
    refine hnd.2.2 _ h1 a.1 ?_ rfl
    have h3 : M.drop i = a :: M.drop (i + 1) := by
      rw [List.drop_eq_getElem_cons hin]
      congr 1
      rw [← ea]
      simp [List.getD, hin]
    rw [h3]
    simp
  have hba : Below wr.heap.size wr (wr.alloc (.cells #[.int .u64 a.2, .int .u64 a.1] 65)) := (Below.refl _ _).alloc (Nat.le_refl _) _
  have hbb : Below wr.heap.size wr (wr.alloc (.cells #[.int .u64 a.2, .int .u64 a.1] 65)).drew := hba.drew
  have hkb : (wr.alloc (.cells #[.int .u64 a.2, .int .u64 a.1] 65)).drew.heap[wr.heap.size]? = some (.cells #[.int .u64 a.2, .int .u64 a.1] 65 (0, 0)) := heap_alloc_new wr _
  obtain ⟨wb, ewb⟩ : ∃ wb, (wr.alloc (.cells #[.int .u64 a.2, .int .u64 a.1] 65)).drew = wb := ⟨_, rfl⟩
  rw [ewb] at hbb hkb
  have hBb : But (fun _ => False) wr wb := But.of hbb
  have hWb := hW.but hBb (fun _ _ x => x)
  obtain ⟨wd, hrd, hmd, hBd⟩ := hWb.map.del_u (e := a.1) ⟨hK a hma, hni⟩ 0
  have hmS := hlt m hW.sm
  have hsz := hB.size
  have hsb := hBb.size
  have hcb := cells2 hkb
  have hkd : wd.heap[wr.heap.size]? = some (.cells #[.int .u64 a.2, .int .u64 a.1] 65 (0, 0)) := hBd.blk hkb (by omega)
  have hWd := hWb.turn hBd hmd
  have hrd1 := (hrow.but hBb (fun _ _ x => x)).but hBd (fun b hb e => by have := hown b hb; omega)
  have hid1 := (hids.but hBb (fun _ _ x => x)).but hBd (fun b hb e => by have := hvo b hb; omega)
  have hBl : But (fun _ => False) wd (wd.alloc (.cells #[.int .u64 a.1] 23)) := (But.refl _ _).alloc _
  have hlit := Row.one (w := wd) 23 .u64 a.1 wd.heap.size rfl
  have hid2 := hid1.but hBl (fun _ _ x => x)
  have hrow2 := hrd1.but hBl (fun _ _ x => x)
  have hW2 := hWd.but hBl (fun _ _ x => x)
  obtain ⟨v4, w5, hr5, hs5, hb5, ho5, _, _⟩ := sl_app (P := Try.prog) (wd.alloc (.cells #[.int .u64 a.1] 23)) 37 37 23 .u64 8 Try.underlying37 info_u64w (by omega) v _ _ [a.1] hid2 hlit (by simp; omega)
  have hdl : wd.heap.size ≤ (wd.alloc (.cells #[.int .u64 a.1] 23)).heap.size := hBl.size
  have hsd := hBd.size
  refine ⟨_, wb, wd, v4, w5, rfl, ewb, hrd, ⟨hcb, hWb.k2⟩, ⟨cells2 hkd, hWd.k2⟩, hr5, Cj, hj, ⟨?_, hown, ?_, fun b hb => ?_, ?_, ?_⟩⟩
  · refine hrow2.but hb5 (fun b hb e => ?_)
    obtain ⟨C1, h1⟩ := hrow2.blk hb
    obtain ⟨C2, h2⟩ := hid2.blk e
    rw [h1] at h2
    injection h2 with e2
    injection e2 with _ e2
    revert e2
    decide
  · rw [htk, List.map_append]; exact hs5
  · rcases ho5 with e | e
    · exact hvo b (by rw [← e]; exact hb)
    · have := Option.some.inj (hb.symm.trans e)
      omega
  · refine (hW2.but hb5 (fun k hk e => by have := hlt k hk; have := hvo k e; omega)).keys (fun e => ?_) (fun _ _ => rfl)
    rw [htk, List.map_append]
    simp only [List.map_cons, List.map_nil, List.mem_append, List.mem_singleton, not_or]
    constructor
    · rintro ⟨h1, h2, h3⟩; exact ⟨h2, h3, h1⟩
    · rintro ⟨h2, h3, h1⟩; exact ⟨h1, h2, h3⟩
  · exact (((hB.trans (hBb.mono (fun _ _ x => x.elim))).trans (hBd.mono (fun k _ e => e ▸ hW.sm))).trans (hBl.mono (fun _ _ x => x.elim))).trans2 hb5 (fun k hk e => by have := hvo k e; omega)
def TickIs (S : Nat → Prop) (g m : Nat) (now : Int) (sl : Nat → AL) (K : Int → Prop) (R : Int → Value) (w : World) (e : Ending) (w' : World) : Prop :=
  ∃ (v : Value) (M : AL) (C' : Array Value) (hs' : Nat → Value), e = .returned (.tuple #[v, .int .i64 0]) ∧ M.Perm (catW (fun j => dueW now (sl j)) 64) ∧ (∀ i j, i < j → j < M.length → ¬ befW (M.getD j (0, 0)) (M.getD i (0, 0))) ∧ Sl w' 23 .u64 v (M.map Prod.fst) ∧
    (∀ b, v.ownBlock = some b → w.heap.size ≤ b) ∧ WMem w' S g m C' hs' now (fun j => leftW now (sl j)) (fun e => K e ∧ e ∉ M.map Prod.fst) R ∧ But S w w'
set_option maxHeartbeats 1000000 in
theorem tick_walk (S : Nat → Prop) (g m : Nat) (C : Array Value) (hs : Nat → Value) (ck : Int) (sl : Nat → AL) (K : Int → Prop) (R : Int → Value) (w : World) (now : Int) (h : WMem w S g m C hs ck sl K R) (hnow : ck ≤ now ∧ now ≤ bigW) (hb : ∀ j, (sl j).length ≤ 1000000) (hD : ∀ M : AL, M.Perm (catW (fun j => dueW now (sl j)) 64) → (∀ a, a ∈ M → K a.1) ∧ (M.map Prod.fst).Nodup ∧ M.length ≤ 1000000) :
    Calls Try.prog 13 #[.pointer (some ⟨g, 0, none⟩), .int .u64 now] w (TickIs S g m now sl K R w) := by
  have Hno := Lib.hid (wnone_no g w h.k0)
  have k1 := h.k1
  have fr1 := h.free 1
  have hd1 : decide (now < ck) = false := decide_eq_false (by omega)
  have hd2 : decide (1099511627776 < now) = false := decide_eq_false (by unfold bigW at hnow; omega)
  obtain ⟨w1, ew1⟩ : ∃ w1, w.setCell ⟨g, 1, none⟩ (.int .u64 now) = w1 := ⟨_, rfl⟩
  have Ew1 := Lib.hid ew1
  have hc := (hD _ (List.Perm.refl _)).2.2
  have HLt := Lib.hid h.lt
  have HD := Lib.hid hD
  have hck := h.clock now
  rw [ew1] at hck
  have Hdue := Lib.hid (due_any S g m _ hs now sl K R w1 hck.1 hb hc)
  have HB1 := Lib.hid hck.2
  have Hnow := Lib.hid hnow
  clear h hb hc ew1 hck hnow hD
  go_enter Try.func13, Try.ntmps13
  go_wp2_with fail
  refine Hno.out.mono ?_
  rintro e w0 ⟨rfl, rfl⟩
  go_upto_region 6 with (fail)
  rw [Ew1.out]
  go_wp2_with fail
  refine Hdue.out.mono ?_
  rintro e w2 ⟨A, c, M, C2, hs2, rfl, hp, hsrt, hrow, hown, hW2, hB2⟩
  have HDue := Lib.hid (And.intro hp (And.intro hsrt (And.intro hrow (And.intro hown (And.intro hW2 hB2)))))
  clear hp hsrt hrow hown hW2 hB2
  go_wp2_with fail
  have hdd := HD.out M HDue.out.1
  have HK := Lib.hid hdd.1
  have HNd := Lib.hid hdd.2.1
  have HMl := Lib.hid hdd.2.2
  clear hdd
  go_loopg [6, 8, 28] M.length (fun gk x6 x8 x28 wr => ∃ (i : Nat) (v : Value) (Cj : Array Value) (hj : Nat → Value), Hid (gk + i = M.length) ∧ i ≤ M.length ∧ x28 = .int .i64 (i : Int) ∧ v = x6 ∧ Hid (TickAt S g m now (fun j => leftW now (sl j)) K R w A c M Cj hj i v wr))
  case atStart =>
    obtain ⟨hp, hsrt, hrow, hown, hW2, hB2⟩ := HDue.out
    have hs1 := HB1.out.size
    exact ⟨0, .slice none 0 0, C2, hs2, rfl, Nat.zero_le _, rfl, rfl, Lib.hid ⟨hrow, fun b hb => by have := hown b hb; omega, Sl.nil _ _ _, fun b hb => (by cases hb), hW2.keys (fun e => ⟨fun x => ⟨x, by simp⟩, fun x => x.1⟩) (fun _ _ => rfl), HB1.out.trans hB2⟩⟩
  case round =>
    obtain ⟨i, v, Cj, hj, hgk, hi, rfl, rfl, hT⟩ := hrel
    by_cases hin : i < M.length
    · obtain ⟨g2, o, rfl, hidx, c0, c1, hg2⟩ := sal_index hT.out.row rfl hin
      obtain ⟨a, ea⟩ : ∃ a, M.getD i (0, 0) = a := ⟨_, rfl⟩
      rw [ea] at c0 c1
      have hin2 : (i : Int) < (M.length : Int) := by omega
      have hin3 : decide ((i : Int) < (M.length : Int)) = true := decide_eq_true hin2
      obtain ⟨wa, wb, wd, v4, w5, ewa, ewb, hrd, hSb, hSd, hr5, Cj', hj', hnext⟩ := tick_step hT.out HLt.out HK.out HNd.out hin HMl.out a ea
      have Ewa := Lib.hid ewa
      have Ewb := Lib.hid ewb
      have Hrd := Lib.hid hrd
      have HSb := Lib.hid hSb
      have HSd := Lib.hid hSd
      have Hr5 := Lib.hid hr5
      have HNext := Lib.hid hnext
      clear ewa ewb hrd hSb hSd hr5 hnext ea
      have hwr : IntKind.i64.wrap ((i : Int) + 1) = (i : Int) + 1 := by have := HMl.out; rw [IntKind.wrap_i64]; omega
      go_upto_region 10 with (fail)
      rw [Ewa.out]
      obtain ⟨zb, ezb⟩ : ∃ zb, wr.heap.size = zb := ⟨_, rfl⟩
      rw [ezb] at HSb HSd ⊢
      refine wp_region_held_drew (S := fun W => (W.cell? ⟨zb, 0, none⟩ = some (.int .u64 a.2) ∧ W.cell? ⟨zb, 1, none⟩ = some (.int .u64 a.1)) ∧ W.cell? ⟨g, 2, none⟩ = some (.map (some m))) (by kernel_rfl) (by rw [Ewb.out]; exact HSb.out) (fun hHeld => ?_)
      rw [Ewb.out] at hHeld ⊢
      refine wpAnyH_take (i := 0) (oi := { dst := some 32, op := Go.Op.move (Go.Operand.tmp 0), type := 24, pos := "wheel.go:91", after := #[], guard := none }) (v := ?_) rfl (by kernel_rfl) (by kernel_rfl) (by kernel_rfl) (fun _ _ _ h => h) (Or.inl ⟨by rfl, ?_⟩) (by assumption) ?_
      rotate_left 1
      · intro w' hSw; (go_simp <;> (with_reducible rfl))
      (try simp only [Act.put, List.setIfInBounds_toArray, List.set_cons_zero, List.set_cons_succ])
      refine wpAnyH_take (i := 1) (oi := { dst := some 33, op := Go.Op.nilCheck (Go.Operand.tmp 32), type := 0, pos := "wheel.go:91", after := #[{ on := 0, ground := Go.Ground.data }], guard := none }) (v := ?_) rfl (by kernel_rfl) (by kernel_rfl) (by kernel_rfl) (fun _ _ _ h => h) (Or.inl ⟨by rfl, ?_⟩) (by assumption) ?_
      rotate_left 1
      · intro w' hSw; (go_simp <;> (with_reducible rfl))
      (try simp only [Act.put, List.setIfInBounds_toArray, List.set_cons_zero, List.set_cons_succ])
      refine wpAnyH_take (i := 2) (oi := { dst := some 34, op := Go.Op.fieldAddr 60 (Go.Operand.tmp 33) 2, type := 0, pos := "wheel.go:91", after := #[{ on := 1, ground := Go.Ground.data }], guard := none }) (v := ?_) rfl (by kernel_rfl) (by kernel_rfl) (by kernel_rfl) (fun _ _ _ h => h) (Or.inl ⟨by rfl, ?_⟩) (by assumption) ?_
      rotate_left 1
      · intro w' hSw; (go_simp <;> (with_reducible rfl))
      (try simp only [Act.put, List.setIfInBounds_toArray, List.set_cons_zero, List.set_cons_succ])
      refine wpAnyH_take (i := 3) (oi := { dst := some 35, op := Go.Op.load 51 (Go.Operand.tmp 34), type := 51, pos := "wheel.go:91", after := #[{ on := 2, ground := Go.Ground.data }], guard := none }) (v := ?_) rfl (by kernel_rfl) (by kernel_rfl) (by kernel_rfl) (fun _ _ _ h => h) (Or.inl ⟨by rfl, ?_⟩) (by assumption) ?_
      rotate_left 1
      · intro w' hSw; (go_simp <;> (with_reducible rfl))
      (try simp only [Act.put, List.setIfInBounds_toArray, List.set_cons_zero, List.set_cons_succ])
      refine wpAnyH_take (i := 4) (oi := { dst := some 36, op := Go.Op.fieldAddr 65 (Go.Operand.tmp 8) 1, type := 0, pos := "wheel.go:91", after := #[], guard := none }) (v := ?_) rfl (by kernel_rfl) (by kernel_rfl) (by kernel_rfl) (fun _ _ _ h => h) (Or.inl ⟨by rfl, ?_⟩) (by assumption) ?_
      rotate_left 1
      · intro w' hSw; (go_simp <;> (with_reducible rfl))
      (try simp only [Act.put, List.setIfInBounds_toArray, List.set_cons_zero, List.set_cons_succ])
      refine wpAnyH_take (i := 5) (oi := { dst := some 37, op := Go.Op.load 23 (Go.Operand.tmp 36), type := 23, pos := "wheel.go:91", after := #[{ on := 4, ground := Go.Ground.data }], guard := none }) (v := ?_) rfl (by kernel_rfl) (by kernel_rfl) (by kernel_rfl) (fun _ _ _ h => h) (Or.inl ⟨by rfl, ?_⟩) (by assumption) ?_
      rotate_left 1
      · intro w' hSw; (go_simp <;> (with_reducible rfl))
      (try simp only [Act.put, List.setIfInBounds_toArray, List.set_cons_zero, List.set_cons_succ])
      have hrd := Hrd.out
      refine wpAnyH_ready (rs := [6]) (by kernel_rfl) (by simp) ?_
      refine AllReadyH.cons (o := { dst := none, op := Go.Op.call { callee := Go.Callee.builtin Go.Builtin.delete, args := #[Go.Operand.tmp 35, Go.Operand.tmp 37], argTypes := #[51, 23] }, type := 0, pos := "wheel.go:91", after := #[{ on := 3, ground := Go.Ground.data }, { on := 5, ground := Go.Ground.data }], guard := none }) rfl (fun K hK => ?_) AllReadyH.nil
      go_simp
      skip
      refine hK.out _ _ ?_ (fun hHeld => ?_)
      · exact HSd.out
      clear hK K
      (try simp only [Act.put, List.setIfInBounds_toArray, List.set_cons_zero, List.set_cons_succ])
      refine wpAnyH_done (by kernel_rfl) ?_ _
      clear hHeld
      have kd0 := HSd.out.1.1
      have kd1 := HSd.out.1.2
      go_wp2_with (at_builtin; refine wpList_appX rfl (.tmp 38) (.tmp 41) _ _ rfl rfl _ _ _ w5 rfl rfl Hr5.out ?_)
      go_roundg (gk - 1)
      case measure => have := hgk.out; omega
      case rel => exact ⟨i + 1, v4, Cj', hj', Lib.hid (by have := hgk.out; show gk - 1 + (i + 1) = _; omega), by omega, by go_num, rfl, HNext⟩
    · obtain rfl : i = M.length := by omega
      have HE := Lib.hid (show TickIs S g m now sl K R w (.returned (.tuple #[v, .int .i64 0])) wr from by
        obtain ⟨h1, h2, h3, h4, h5, h6⟩ := hT.out
        rw [List.take_length] at h3 h5
        exact ⟨v, M, Cj, hj, rfl, HDue.out.1, HDue.out.2.1, h3, h4, h5, h6⟩)
      have hin3 : decide ((M.length : Int) < (M.length : Int)) = false := by simp
      go_wp2_with fail
      go_ret2
      exact HE.out
end Go.Proofs.Ytlpgabbnldalhaa
