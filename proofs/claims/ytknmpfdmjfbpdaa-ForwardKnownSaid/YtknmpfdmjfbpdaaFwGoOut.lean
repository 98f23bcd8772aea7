/-
  The program's Outward (package forward), over a table in memory.
-/
import Derived.Test.YtknmpfdmjfbpdaaFwFind
import Derived.Deep.RegionHeld3
namespace Go.Proofs.Ytknmpfdmjfbpdaa
set_option maxRecDepth 10000
open Go.RowKit
set_option linter.unusedSimpArgs false
set_option linter.unusedVariables false

theorem find_first {L : FWL} {p : Fw → Bool} {j : Nat} (hj : j < L.length) {f : Fw} (hf : L.getD j fw0 = f) (hp : p f = true) (hno : ∀ t, t < j → p (L.getD t fw0) = false) : L.find? p = some f := by
  have e : L.getD j fw0 = L[j] := by simp [List.getD, hj]
  rw [List.find?_eq_some_iff_getElem]
  refine ⟨hp, j, hj, by rw [← e, hf], fun t ht => ?_⟩
  have := hno t ht
  rw [show L.getD t fw0 = L[t] by simp [List.getD, show t < L.length by omega]] at this
  rw [this]; rfl
theorem find_nothing {L : FWL} {p : Fw → Bool} (hno : ∀ t, t < L.length → p (L.getD t fw0) = false) : L.find? p = none := by
  refine List.find?_eq_none.2 (fun g hg => ?_)
  obtain ⟨t, ht⟩ := List.getElem?_of_mem hg
  obtain ⟨htl, e⟩ := List.getElem?_eq_some_iff.1 ht
  have := hno t htl
  rw [show L.getD t fw0 = g by simp [List.getD, ht]] at this
  simp [this]
set_option maxHeartbeats 1000000 in
theorem outward_at (S : Nat → Prop) (g : Nat) (L : FWL) (x y : Tu) (outer : Int) (b : Bool) (w : World) (h : FwMem w S g L) (hl : L.length ≤ 1000000) (hx : fwOut x outer L = (y, b)) :
    Calls Try.prog 17 #[.pointer (some ⟨g, 0, none⟩), .agg #[.int .u8 x.pr, .int .u32 x.sr, .int .u32 x.ds, .int .u16 x.sp, .int .u16 x.dp], .int .u32 outer] w (FwTells (.tuple #[.agg #[.int .u8 y.pr, .int .u32 y.sr, .int .u32 y.ds, .int .u16 y.sp, .int .u16 y.dp], .bool b]) w) := by
  obtain ⟨w0, ew⟩ : ∃ w0, (w.alloc (.cells #[.int .u8 x.pr, .int .u32 x.sr, .int .u32 x.ds, .int .u16 x.sp, .int .u16 x.dp] 31)).alloc (.cells #[.int .u8 0, .int .u32 0, .int .u32 0, .int .u16 0, .int .u16 0] 31) = w0 := ⟨_, rfl⟩
  obtain ⟨z, hz⟩ : ∃ z, w.heap.size = z := ⟨_, rfl⟩
  have hb0 : Below w.heap.size w w0 := by rw [← ew]; exact ((Below.refl _ _).alloc (Nat.le_refl _) _).alloc (by simp) _
  have hk0 : w0.heap[z]? = some (.cells #[.int .u8 x.pr, .int .u32 x.sr, .int .u32 x.ds, .int .u16 x.sp, .int .u16 x.dp] 31 (0, 0)) := by rw [← ew, Below.heap_alloc _ _ _ (by simp [hz]), ← hz]; exact heap_alloc_new w _
  have hk1 : w0.heap[z + 1]? = some (.cells #[.int .u8 0, .int .u32 0, .int .u32 0, .int .u16 0, .int .u16 0] 31 (0, 0)) := by
    rw [← ew, ← hz]; simpa using heap_alloc_new (w.alloc (.cells #[.int .u8 x.pr, .int .u32 x.sr, .int .u32 x.ds, .int .u16 x.sp, .int .u16 x.dp] 31)) (.cells #[.int .u8 0, .int .u32 0, .int .u32 0, .int .u16 0, .int .u16 0] 31)
  have hal : (fwAll L).length = L.length := (fwAll_perm L).length_eq
  obtain ⟨n, hn⟩ : ∃ n, L.length = n := ⟨_, rfl⟩
  rw [hn] at hl hal
  obtain ⟨⟨b', A, c, N, K, R, hg, hM, hD, hs, -, -⟩, -, -, hne⟩ := h.below hb0
  rw [hn] at hg hs
  obtain ⟨M, eM⟩ : ∃ M, fwAll L = M := ⟨_, rfl⟩
  rw [eM] at hal hs
  unfold fwOut at hx
  rw [eM] at hx
  have HA := Lib.hid (RdW.of hs hal)
  have g1 : w0.cell? ⟨g, 1, none⟩ = some (.slice A n c) := blk_cell hg 1
  have Hn := Lib.hid hal
  have Hx := Lib.hid hx
  have Ew := Lib.hid ew
  have Hz := Lib.hid hz
  have Hb0 := Lib.hid hb0
  have HK0 := Lib.hid hk0
  have HK1 := Lib.hid hk1
  clear h hb0 hk0 hk1 hx ew hz hg hM hD hs hne hal hn eM
  go_enter Try.func17, Try.ntmps17
  go_upto_region 1 with (fail)
  rw [Ew.out]
  try rw [Hz.out]
  go_wp2_with fail
  clear g1
  go_loopg [18] n (fun gk i wr => ∃ j : Nat, Hid (gk + j = n) ∧ j ≤ n ∧ i = .int .i64 (j : Int) ∧ Hid (∀ t, t < j → fwLeads x (M.getD t fw0) = false) ∧ Hid (Below w0.heap.size w0 wr))
  case atStart => exact ⟨0, rfl, Nat.zero_le _, rfl, Lib.hid (fun t ht => by omega), Lib.hid (Below.refl _ _)⟩
  case round =>
    obtain ⟨j, hgk, hj, rfl, hno, hB⟩ := hrel
    by_cases hjn : j < n
    · obtain ⟨b2, pp, hidx, hlt, hfl⟩ := (HA.out.below hB.out).index (c := c) Hn.out hjn
      obtain ⟨f, ef⟩ : ∃ f, M.getD j fw0 = f := ⟨_, rfl⟩
      rw [ef] at hfl
      obtain ⟨c0, c1, c2', c3⟩ := hfl
      obtain ⟨z2, ez2⟩ : ∃ y, wr.heap.size = y := ⟨_, rfl⟩
      obtain ⟨w2, ew2⟩ : ∃ w1, wr.alloc (.cells #[.int .u8 f.pr, .int .u16 f.po, .int .u32 f.ad, .int .u16 f.tp] 40) = w1 := ⟨_, rfl⟩
      have hBa : Below wr.heap.size wr w2 := by rw [← ew2]; exact (Below.refl _ _).alloc (Nat.le_refl _) _
      have hkf : w2.heap[z2]? = some (.cells #[.int .u8 f.pr, .int .u16 f.po, .int .u32 f.ad, .int .u16 f.tp] 40 (0, 0)) := by rw [← ew2, ← ez2]; exact heap_alloc_new wr _
      have HB1 := Lib.hid (below_trans hB.out hBa)
      have i0 : (0 : Int) ≤ (j : Int) := by omega
      have i1 : (j : Int) < (n : Int) := by omega
      have d0 : w2.cell? ⟨z2, 0, none⟩ = some (.int .u8 f.pr) := blk_cell hkf 0
      have d1 : w2.cell? ⟨z2, 1, none⟩ = some (.int .u16 f.po) := blk_cell hkf 1
      have d2 : w2.cell? ⟨z2, 2, none⟩ = some (.int .u32 f.ad) := blk_cell hkf 2
      have d3 : w2.cell? ⟨z2, 3, none⟩ = some (.int .u16 f.tp) := blk_cell hkf 3
      have HK2 := Lib.hid (blk_on HK0.out HB1.out)
      have HK3 := Lib.hid (blk_on HK1.out HB1.out)
      obtain ⟨b0, b1, b2, b3, b4⟩ := cells5 HK2.out
      have Hne := Lib.hid (show z2 ≠ z by have := lt_of_block HK0.out; have := hB.out.size; omega)
      have HB2 := Lib.hid (below_trans Hb0.out HB1.out)
      have Hjn := Lib.hid hjn
      have Hef := Lib.hid ef
      have Ew2 := Lib.hid ew2
      have Ez2 := Lib.hid ez2
      clear ef hlt hBa hkf ew2 ez2
      go_upto_region 6 with (fail)
      rw [Ew2.out]
      try rw [Ez2.out]
      clear c0 c1 c2' c3 hidx
      by_cases hp : f.pr = x.pr
      · by_cases hq : f.ad = x.sr
        · by_cases hr : f.tp = x.sp
          · have p1 : (f.pr == x.pr) = true := by simpa using hp
            have p2 : (f.ad == x.sr) = true := by simpa using hq
            have p3 : (f.tp == x.sp) = true := by simpa using hr
            have hfind := find_first (p := fwLeads x) (by have := Hn.out; have := Hjn.out; omega) Hef.out (by unfold fwLeads; exact decide_eq_true ⟨hp, hq, hr⟩) hno.out
            have hx := Hx.out
            rw [hfind] at hx
            simp only [Prod.mk.injEq] at hx
            obtain ⟨rfl, rfl⟩ := hx
            clear hp hq hr hfind
            go_upto_region 7 with (fail)
            have HBd := Lib.hid (show w2.drew.cell? ⟨z2, 1, none⟩ = some (.int .u16 f.po) from d1)
            clear b0 b1 b2 b3 b4 d0 d1 d2 d3 p1 p2 p3
            refine wp_region_held_drew (S := fun w' => w'.cell? ⟨z2, 1, none⟩ = some (.int .u16 f.po)) (by kernel_rfl) HBd.out (fun hHeld => ?_)
            obtain ⟨wd, ewd⟩ : ∃ wd, w2.drew = wd := ⟨_, rfl⟩
            have hk : wd.heap[z]? = some (.cells #[.int .u8 x.pr, .int .u32 x.sr, .int .u32 x.ds, .int .u16 x.sp, .int .u16 x.dp] 31 (0, 0)) := by rw [← ewd]; exact HK2.out
            have hk3 : wd.heap[z + 1]? = some (.cells #[.int .u8 0, .int .u32 0, .int .u32 0, .int .u16 0, .int .u16 0] 31 (0, 0)) := by rw [← ewd]; exact HK3.out
            have hbd : Below w.heap.size w wd := by rw [← ewd]; exact HB2.out.drew
            rw [ewd] at HBd hHeld ⊢
            clear ewd
            have q2 : wd.cell? ⟨z, 1, none⟩ = some (.int .u32 x.sr) := blk_cell hk 1
            have fq := fun i => blk_free hk i
            obtain ⟨v1, ev1⟩ : ∃ v, wd.setCell ⟨z, 1, none⟩ (.int .u32 outer) = v := ⟨_, rfl⟩
            have k1 : v1.heap[z]? = some (.cells #[.int .u8 x.pr, .int .u32 outer, .int .u32 x.ds, .int .u16 x.sp, .int .u16 x.dp] 31 (0, 0)) := by rw [← ev1]; have := heap_setCell_at hk 1 (.int .u32 outer); simpa using this
            have k3 : v1.heap[z + 1]? = some (.cells #[.int .u8 0, .int .u32 0, .int .u32 0, .int .u16 0, .int .u16 0] 31 (0, 0)) := by rw [← ev1]; exact keep_blk hk3 (by omega) _
            have HS1 := Lib.hid (show v1.cell? ⟨z2, 1, none⟩ = some (.int .u16 f.po) by rw [← ev1]; exact keep_cell HBd.out (fun e => Hne.out e.symm) _)
            have fy := fun i => blk_free k1 i
            have q4 : v1.cell? ⟨z, 3, none⟩ = some (.int .u16 x.sp) := blk_cell k1 3
            obtain ⟨v2, ev2⟩ : ∃ v, v1.setCell ⟨z, 3, none⟩ (.int .u16 f.po) = v := ⟨_, rfl⟩
            have m1 : v2.heap[z]? = some (.cells #[.int .u8 x.pr, .int .u32 outer, .int .u32 x.ds, .int .u16 f.po, .int .u16 x.dp] 31 (0, 0)) := by rw [← ev2]; have := heap_setCell_at k1 3 (.int .u16 f.po); simpa using this
            have m3 : v2.heap[z + 1]? = some (.cells #[.int .u8 0, .int .u32 0, .int .u32 0, .int .u16 0, .int .u16 0] 31 (0, 0)) := by rw [← ev2]; exact keep_blk k3 (by omega) _
            have HS2 := Lib.hid (show v2.cell? ⟨z2, 1, none⟩ = some (.int .u16 f.po) by rw [← ev2]; exact keep_cell HS1.out (fun e => Hne.out e.symm) _)
            have HB4 := Lib.hid (show Below w.heap.size w v2 by rw [← ev2, ← ev1]; exact set_below (set_below hbd (by rw [Hz.out]; exact Nat.le_refl _) _) (by rw [Hz.out]; exact Nat.le_refl _) _)
            have HM3 := Lib.hid m3
            have HM1 := Lib.hid m1
            have Ev1 := Lib.hid ev1
            have Ev2 := Lib.hid ev2
            clear hk hk3 hbd k1 k3 m1 m3 ev1 ev2
            refine wpAnyH_take (i := 0) (oi := { dst := some 41, op := Go.Op.move (Go.Operand.tmp 2), type := 22, pos := "forward.go:90", after := #[], guard := none }) (v := ?_) rfl (by kernel_rfl) (by kernel_rfl) (by kernel_rfl) (fun _ _ _ h => h) (Or.inl ⟨by rfl, ?_⟩) (by assumption) ?_
            rotate_left 1
            · intro w' hSw; (go_simp <;> (with_reducible rfl))
            (try simp only [Act.put, List.setIfInBounds_toArray, List.set_cons_zero, List.set_cons_succ])
            refine wpAnyH_take (i := 1) (oi := { dst := some 42, op := Go.Op.fieldAddr 40 (Go.Operand.tmp 9) 1, type := 0, pos := "forward.go:90", after := #[{ on := 4, ground := Go.Ground.gcOnly Go.Departure.lateStores }], guard := none }) (v := ?_) rfl (by kernel_rfl) (by kernel_rfl) (by kernel_rfl) (fun _ _ _ h => h) (Or.inl ⟨by rfl, ?_⟩) (by assumption) ?_
            rotate_left 1
            · intro w' hSw; (go_simp <;> (with_reducible rfl))
            (try simp only [Act.put, List.setIfInBounds_toArray, List.set_cons_zero, List.set_cons_succ])
            refine wpAnyH_take (i := 2) (oi := { dst := some 43, op := Go.Op.load 23 (Go.Operand.tmp 42), type := 23, pos := "forward.go:90", after := #[{ on := 1, ground := Go.Ground.data }, { on := 4, ground := Go.Ground.gcOnly Go.Departure.lateStores }], guard := none }) (v := ?_) rfl (by kernel_rfl) (by kernel_rfl) (by kernel_rfl) (fun _ _ _ h => h) (Or.inl ⟨by rfl, ?_⟩) (by assumption) ?_
            rotate_left 1
            · intro w' hSw; (go_simp <;> (with_reducible rfl))
            (try simp only [Act.put, List.setIfInBounds_toArray, List.set_cons_zero, List.set_cons_succ])
            refine wpAnyH_take (i := 3) (oi := { dst := some 44, op := Go.Op.fieldAddr 31 (Go.Operand.tmp 4) 1, type := 0, pos := "forward.go:90", after := #[{ on := 0, ground := Go.Ground.phase }, { on := 1, ground := Go.Ground.textOnly Go.Departure.lateStores }, { on := 2, ground := Go.Ground.textOnly Go.Departure.lateStores }], guard := none }) (v := ?_) rfl (by kernel_rfl) (by kernel_rfl) (by kernel_rfl) (fun _ _ _ h => h) (Or.inl ⟨by rfl, ?_⟩) (by assumption) ?_
            rotate_left 1
            · intro w' hSw; (go_simp <;> (with_reducible rfl))
            (try simp only [Act.put, List.setIfInBounds_toArray, List.set_cons_zero, List.set_cons_succ])
            refine wpAnyH_ready (rs := [4]) (by kernel_rfl) (by simp) ?_
            refine AllReadyH.cons (o := { dst := none, op := Go.Op.store 22 (Go.Operand.tmp 44) (Go.Operand.tmp 41), type := 0, pos := "forward.go:90", after := #[{ on := 3, ground := Go.Ground.data }, { on := 0, ground := Go.Ground.data }, { on := 0, ground := Go.Ground.phase }, { on := 1, ground := Go.Ground.textOnly Go.Departure.lateStores }, { on := 2, ground := Go.Ground.textOnly Go.Departure.lateStores }], guard := none }) rfl (fun K hK => ?_) AllReadyH.nil
            go_simp
            (rw [Ev1.out]; clear q2 fq)
            refine hK.out _ _ ?_ (fun hHeld => ?_)
            · exact HS1.out
            clear hK K
            (try simp only [Act.put, List.setIfInBounds_toArray, List.set_cons_zero, List.set_cons_succ])
            refine wpAnyH_take (i := 5) (oi := { dst := some 45, op := Go.Op.fieldAddr 31 (Go.Operand.tmp 4) 3, type := 0, pos := "forward.go:90", after := #[{ on := 0, ground := Go.Ground.phase }, { on := 1, ground := Go.Ground.phase }, { on := 2, ground := Go.Ground.phase }, { on := 3, ground := Go.Ground.phase }, { on := 4, ground := Go.Ground.phase }], guard := none }) (v := ?_) rfl (by kernel_rfl) (by kernel_rfl) (by kernel_rfl) (fun _ _ _ h => h) (Or.inl ⟨by rfl, ?_⟩) (by assumption) ?_
            rotate_left 1
            · intro w' hSw; (go_simp <;> (with_reducible rfl))
            (try simp only [Act.put, List.setIfInBounds_toArray, List.set_cons_zero, List.set_cons_succ])
            refine wpAnyH_ready (rs := [6]) (by kernel_rfl) (by simp) ?_
            refine AllReadyH.cons (o := { dst := none, op := Go.Op.store 23 (Go.Operand.tmp 45) (Go.Operand.tmp 43), type := 0, pos := "forward.go:90", after := #[{ on := 5, ground := Go.Ground.data }, { on := 2, ground := Go.Ground.data }, { on := 4, ground := Go.Ground.chain }, { on := 0, ground := Go.Ground.phase }, { on := 1, ground := Go.Ground.phase }, { on := 2, ground := Go.Ground.phase }, { on := 3, ground := Go.Ground.phase }, { on := 4, ground := Go.Ground.phase }], guard := none }) rfl (fun K hK => ?_) AllReadyH.nil
            go_simp
            (rw [Ev2.out]; clear q4 fy)
            refine hK.out _ _ ?_ (fun hHeld => ?_)
            · exact HS2.out
            clear hK K
            (try simp only [Act.put, List.setIfInBounds_toArray, List.set_cons_zero, List.set_cons_succ])
            refine wpAnyH_done (by kernel_rfl) ?_ _
            clear hHeld
            have fz1 := fun i => blk_free HM3.out i
            obtain ⟨n0, n1, n2, n3, n4⟩ := cells5 HM1.out
            obtain ⟨r0, r1, r2, r3, r4⟩ := cells5 HM3.out
            go_wp2_with fail
            exact bodyPost_ret (v := .tuple #[.agg #[.int .u8 x.pr, .int .u32 outer, .int .u32 x.ds, .int .u16 f.po, .int .u16 x.dp], .bool true]) (results_row_tmp rfl _ _ (z + 1) _ _ _ _ _ rfl rfl (set5_blk HM3.out _ _ _ _ _) Try.underlying31 rfl (by kernel_rfl)) rfl ⟨rfl, set5_below HB4.out (by rw [Hz.out]; omega) _ _ _ _ _⟩
          · have p1 : (f.pr == x.pr) = true := by simpa using hp
            have p2 : (f.ad == x.sr) = true := by simpa using hq
            have p3 : (f.tp == x.sp) = false := by simpa using hr
            have Hno2 := Lib.hid (show ∀ t, t < j + 1 → fwLeads x (M.getD t fw0) = false by
              intro t ht
              by_cases e : t = j
              · subst e; rw [Hef.out]; unfold fwLeads; exact decide_eq_false (fun h => by obtain ⟨h1, h2, h3⟩ := h; first | exact hp h1 | exact hq h2 | exact hr h3)
              · exact hno.out t (by omega))
            clear hp hq hr
            go_wp2_with fail
            go_roundg (gk - 1)
            case measure => have := hgk.out; have := Hjn.out; omega
            case rel => exact ⟨j + 1, by have := hgk.out; have := Hjn.out; show gk - 1 + (j + 1) = _; omega, by have := Hjn.out; omega, by go_num, Hno2, HB1⟩
        · have p1 : (f.pr == x.pr) = true := by simpa using hp
          have p2 : (f.ad == x.sr) = false := by simpa using hq
          have Hno2 := Lib.hid (show ∀ t, t < j + 1 → fwLeads x (M.getD t fw0) = false by
            intro t ht
            by_cases e : t = j
            · subst e; rw [Hef.out]; unfold fwLeads; exact decide_eq_false (fun h => by obtain ⟨h1, h2, h3⟩ := h; first | exact hp h1 | exact hq h2 | exact hr h3)
            · exact hno.out t (by omega))
          clear hp hq
          go_wp2_with fail
          go_roundg (gk - 1)
          case measure => have := hgk.out; have := Hjn.out; omega
          case rel => exact ⟨j + 1, by have := hgk.out; have := Hjn.out; show gk - 1 + (j + 1) = _; omega, by have := Hjn.out; omega, by go_num, Hno2, HB1⟩
      · have p1 : (f.pr == x.pr) = false := by simpa using hp
        have Hno2 := Lib.hid (show ∀ t, t < j + 1 → fwLeads x (M.getD t fw0) = false by
          intro t ht
          by_cases e : t = j
          · subst e; rw [Hef.out]; unfold fwLeads; exact decide_eq_false (fun h => by obtain ⟨h1, h2, h3⟩ := h; first | exact hp h1 | exact hq h2 | exact hr h3)
          · exact hno.out t (by omega))
        clear hp
        go_wp2_with fail
        go_roundg (gk - 1)
        case measure => have := hgk.out; have := Hjn.out; omega
        case rel => exact ⟨j + 1, by have := hgk.out; have := Hjn.out; show gk - 1 + (j + 1) = _; omega, by have := Hjn.out; omega, by go_num, Hno2, HB1⟩
    · obtain rfl : n = j := by omega
      have hx := Hx.out
      rw [find_nothing (p := fwLeads x) (by rw [Hn.out]; exact hno.out)] at hx
      simp only [Prod.mk.injEq] at hx
      obtain ⟨rfl, rfl⟩ := hx
      have HK2 := Lib.hid (blk_on HK0.out hB.out)
      have HK3 := Lib.hid (blk_on HK1.out hB.out)
      have HB2 := Lib.hid (below_trans Hb0.out hB.out)
      obtain ⟨b0, b1, b2, b3, b4⟩ := cells5 HK2.out
      obtain ⟨e0, e1, e2, e3, e4⟩ := cells5 HK3.out
      have fz1 := fun i => blk_free HK3.out i
      go_wp2_with fail
      exact bodyPost_ret (v := .tuple #[.agg #[.int .u8 x.pr, .int .u32 x.sr, .int .u32 x.ds, .int .u16 x.sp, .int .u16 x.dp], .bool false]) (results_row_tmp rfl _ _ (z + 1) _ _ _ _ _ rfl rfl (set5_blk HK3.out _ _ _ _ _) Try.underlying31 rfl (by kernel_rfl)) rfl ⟨rfl, set5_below HB2.out (by rw [Hz.out]; omega) _ _ _ _ _⟩
end Go.Proofs.Ytknmpfdmjfbpdaa
