/-
  The contract of package pool's Copy.
-/
import Derived.Test.YtlifldionfoddaaPoolCopyAt
import Derived.Test.YtlifldionfoddaaWhole
import Derived.Test.YtlifldionfoddaaHeldLast
import Derived.Deep.LoopGhost
import Derived.Deep.CutRange
namespace Go.Proofs.Ytlifldionfoddaa
set_option maxRecDepth 10000
open Go.RowKit
open Go.ChangeMaps (setBlock)
set_option linter.unusedSimpArgs false
set_option linter.unusedVariables false

def CopyMem (S : Nat → Prop) (q : PS) (w : World) (e : Ending) (w' : World) : Prop := ∃ g gp cp gm vE R S', e = .returned (.pointer (some ⟨g, 0, none⟩)) ∧ MemAt w' S' g gp cp gm vE R q ∧ (∀ k, S' k → w.heap.size ≤ k) ∧ Below w.heap.size w w'
theorem uniq_key {L : List (Int × List Nat)} (hs : L.Pairwise (fun a b => a.1 < b.1)) {e : Int} {ps ps' : List Nat} (h : (e, ps) ∈ L) (h' : (e, ps') ∈ L) : ps' = ps := by
  induction L with
  | nil => cases h
  | cons a L ih =>
    rw [List.pairwise_cons] at hs
    rcases List.mem_cons.1 h with h1 | h1
    · rcases List.mem_cons.1 h' with h2 | h2
      · rw [← h1] at h2
        injection h2 with _ h2
      · have := hs.1 _ h2
        rw [← h1] at this
        simp only at this
        omega
    · rcases List.mem_cons.1 h' with h2 | h2
      · have := hs.1 _ h1
        rw [← h2] at this
        simp only at this
        omega
      · exact ih hs.2 h1 h2
set_option maxHeartbeats 2000000 in
theorem copy_mem (S : Nat → Prop) (g gp cp gm : Nat) (vE : Value) (R : Int → Value) (q : PS) (w : World) (h : MemAt w S g gp cp gm vE R q) (hq : q.ok) :
    Calls Try.prog 15 #[.pointer (some ⟨g, 0, none⟩)] w (CopyMem S q w) := by
  obtain ⟨A9, n9, c9, rfl⟩ := sl_form2 h.ends
  have hbox := h.box
  obtain ⟨k0, k1, k2, k3, k4, k5, k6, k7, k8, k9⟩ := cells10 h.box
  have Hno := Lib.hid (none_quiet g w k0)
  have HM := Lib.hid h
  clear h k1 k2 k3 k5 k6 k7 k0
  go_enter Try.func15, Try.ntmps15
  go_wp2_with fail
  refine Hno.out.mono ?_
  rintro e w1 ⟨rfl, m, rfl⟩
  have HM1 := Lib.hid (HM.out.drewN m)
  have HB1 := Lib.hid (below_drewN (Below.refl w.heap.size w) m)
  have d4 : (w.drewN m).cell? ⟨g, 4, none⟩ = _ := k4
  have d8 : (w.drewN m).cell? ⟨g, 8, none⟩ = _ := k8
  have d9 : (w.drewN m).cell? ⟨g, 9, none⟩ = _ := k9
  have dbox : (w.drewN m).heap[g]? = _ := hbox
  clear k4 k8 k9 hbox Hno
  obtain ⟨w1, ew1⟩ : ∃ w1, w.drewN m = w1 := ⟨_, rfl⟩
  have esz : w.heap.size = w1.heap.size := by rw [← ew1]; rfl
  rw [ew1] at HM1 HB1 d4 d8 d9 dbox ⊢
  clear ew1
  unfold poolC at dbox
  obtain ⟨gc, egc⟩ : ∃ gc, w1.heap.size = gc := ⟨_, rfl⟩
  obtain ⟨w2, ew2⟩ : ∃ w2, w1.alloc (.cells #[.pointer (some ⟨gc, 0, none⟩), .int .u16 q.lo, .int .u64 q.rest, .int .u64 q.now, .slice (some ⟨gp, 0, none⟩) q.st.length cp, .int .i64 (cntS q.st 0), .int .i64 (cntS q.st 1), .int .i64 (cntS q.st 2), .map (some gm), .slice A9 n9 c9] 52) = w2 := ⟨_, rfl⟩
  have b12 : Below w1.heap.size w1 w2 := by rw [← ew2]; exact (Below.refl _ _).alloc (Nat.le_refl _) _
  have HM2 := Lib.hid (HM1.out.below b12)
  have hz2 : w2.heap.size = gc + 1 := by rw [← ew2, ← egc]; simp
  have hbc2 : w2.heap[gc]? = some (.cells #[.pointer (some ⟨gc, 0, none⟩), .int .u16 q.lo, .int .u64 q.rest, .int .u64 q.now, .slice (some ⟨gp, 0, none⟩) q.st.length cp, .int .i64 (cntS q.st 0), .int .i64 (cntS q.st 1), .int .i64 (cntS q.st 2), .map (some gm), .slice A9 n9 c9] 52 (0, 0)) := by rw [← ew2, ← egc]; exact heap_alloc_new w1 _
  obtain ⟨e0, e1, e2, e3, e4, e5, e6, e7, e8, e9⟩ := cells10 HM2.out.box
  have ec4 := (cells10 hbc2).2.2.2.2.1
  have ef4 := blk_free hbc2 4
  have Hbc2 := Lib.hid hbc2
  have Hz2 := Lib.hid hz2
  clear e0 e1 e2 e3 e5 e6 e7 hbc2 d4 d8 d9
  try simp only []
  repeat (first
    | (refine wp_load_row 52 (.tmp 9) rfl g _ _ (0, 0) _ dbox rfl Try.underlying52 rfl (by kernel_rfl) ?_; simp only [Act.put, List.setIfInBounds_toArray, List.set_cons_zero, List.set_cons_succ])
    | go_values | go_skip | go_guarded | go_step | go_upon | go_back)
  refine (clone_state _ q.st w2 (show Sl w2 53 .u8 (.slice (some ⟨gp, 0, none⟩) q.st.length cp) q.st from .inr ⟨gp, 0, cp, rfl, HM2.out.row⟩) (by have := hq.hi; have := hq.lo; omega)).mono ?_
  rintro e w3 ⟨A3, n3, c3, rfl, hs3, hb3, hbel3, hat3⟩
  obtain ⟨gp3, rfl, rfl, hr3⟩ := sl_row0 hs3 hat3 (by intro e; have := hq.n; rw [e] at this; simp at this)
  have hgp3 : w2.heap.size ≤ gp3 := hb3 gp3 rfl
  have hbc3 := blk_on Hbc2.out hbel3
  have c34 := (cells10 hbc3).2.2.2.2.1
  have f34 := blk_free hbc3 4
  have hbc4 := heap_setCell_at hbc3 4 (.slice (some ⟨gp3, 0, none⟩) q.st.length c3)
  have hne34 : gp3 ≠ gc := by have := Hz2.out; omega
  have hr4 := hr3.of_block (Below.heap_setCell w3 ⟨gc, 4, none⟩ (.slice (some ⟨gp3, 0, none⟩) q.st.length c3) gp3 hne34)
  have b14 : Below w1.heap.size w1 (w3.setCell ⟨gc, 4, none⟩ (.slice (some ⟨gp3, 0, none⟩) q.st.length c3)) := (b12.trans (hbel3.mono b12.size)).setCell (by simp only; omega) _
  obtain ⟨w4, ew4⟩ : ∃ w4, w3.setCell ⟨gc, 4, none⟩ (.slice (some ⟨gp3, 0, none⟩) q.st.length c3) = w4 := ⟨_, rfl⟩
  rw [ew4] at hbc4 hr4 b14
  simp only [List.setIfInBounds_toArray, List.set_cons_succ, List.set_cons_zero] at hbc4
  have Hbc4 := Lib.hid hbc4
  have Hr4 := Lib.hid hr4
  have B14 := Lib.hid b14
  have HM4 := Lib.hid (HM1.out.below b14)
  have g49 := (cells10 HM4.out.box).2.2.2.2.2.2.2.2.2
  clear hs3 hb3 hbel3 hat3 hr3 hbc3 hbc4 hr4 b14 e4 e8 e9 ec4 ef4
  go_wp2_with fail
  refine (clone_u64 _ (q.L.map Prod.fst) w4 HM4.out.ends (by have := hq.sizes; have := hq.hi; have := hq.lo; simp; omega)).mono ?_
  rintro e w5 ⟨A5, n5, c5, rfl, hs5, hb5, hbel5, hat5⟩
  have hbc5 := blk_on Hbc4.out hbel5
  have f59 := blk_free hbc5 9
  have c59 := (cells10 hbc5).2.2.2.2.2.2.2.2.2
  have hbc6 := heap_setCell_at hbc5 9 (.slice A5 n5 c5)
  have hr5 := Hr4.out.but (But.of (S := fun _ => False) hbel5) (fun x => x)
  have hr6 := hr5.of_block (Below.heap_setCell w5 ⟨gc, 9, none⟩ (.slice A5 n5 c5) gp3 hne34)
  have hs6 : Sl (w5.setCell ⟨gc, 9, none⟩ (.slice A5 n5 c5)) 23 .u64 (.slice A5 n5 c5) (q.L.map Prod.fst) := hs5.but ((But.refl (fun k => k = gc) _).setCell rfl _) (fun b hb hk => by
    subst hk
    have h1 := hb5 b hb
    have h2 := B14.out.size
    have h3 := lt_of_block Hbc4.out
    omega)
  have b16 : Below w1.heap.size w1 (w5.setCell ⟨gc, 9, none⟩ (.slice A5 n5 c5)) := (B14.out.trans (hbel5.mono B14.out.size)).setCell (by simp only; omega) _
  have hE6 : ∀ b, (Value.slice A5 n5 c5).ownBlock = some b → w1.heap.size ≤ b := fun b hb => by have h1 := hb5 b hb; have h2 := B14.out.size; omega
  obtain ⟨w6, ew6⟩ : ∃ w6, w5.setCell ⟨gc, 9, none⟩ (.slice A5 n5 c5) = w6 := ⟨_, rfl⟩
  rw [ew6] at hbc6 hr6 b16 hs6
  simp only [List.setIfInBounds_toArray, List.set_cons_succ, List.set_cons_zero] at hbc6
  have HM6 := Lib.hid (HM1.out.below b16)
  have g68 := (cells10 HM6.out.box).2.2.2.2.2.2.2.2.1
  obtain ⟨ln, hln⟩ := HM6.out.map.len
  have hmk := run_makeMap_hint w6 (ln : Int)
  have c68 := (cells10 hbc6).2.2.2.2.2.2.2.2.1
  have f68 := blk_free hbc6 8
  have Hbc6 := Lib.hid hbc6
  have Hr6 := Lib.hid hr6
  have Hs6 := Lib.hid hs6
  have B16 := Lib.hid b16
  have HE6 := Lib.hid hE6
  have hltg := lt_of_block HM6.out.box
  have hltc := lt_of_block hbc6
  have hgne : g ≠ gc := by have := lt_of_block HM1.out.box; omega
  clear hs5 hb5 hbel5 hat5 hbc5 hbc6 hr5 hr6 hs6 b16 hE6 g49
  go_upto_region 8 with (fail)
  clear hmk c68 f68 g68 hln
  obtain ⟨es, clock, hgm1, hst, hk1, hk2⟩ := id HM1.out.map
  obtain ⟨gn, egn⟩ : ∃ gn, w6.heap.size = gn := ⟨_, rfl⟩
  obtain ⟨w7, ew7⟩ : ∃ w7, (w6.setCell ⟨gc, 8, none⟩ (.map (some gn))).alloc (.map #[] 0) = w7 := ⟨_, rfl⟩
  have hsz6 : (w6.setCell ⟨gc, 8, none⟩ (.map (some gn))).heap.size = gn := by rw [← egn]; simp [World.setCell]
  have b6s : But (fun k => k = gc) w6 (w6.setCell ⟨gc, 8, none⟩ (.map (some gn))) := (But.refl (fun k => k = gc) w6).setCell (p := ⟨gc, 8, none⟩) rfl _
  have b67 : But (fun k => k = gc) w6 w7 := by rw [← ew7]; exact b6s.alloc _
  have b17 : Below w1.heap.size w1 w7 := B16.out.trans (b67.below (fun k hk => by omega) B16.out.size)
  have hgm7 := blk_on hgm1 b17
  have g78 := (cells10 (HM1.out.below b17).box).2.2.2.2.2.2.2.2.1
  have hrange := run_range_map (P := Try.prog) w7 49 23 61 gm es clock Try.underlying49 hgm7
  obtain ⟨r, er⟩ : ∃ r, w7.heap.size = r := ⟨_, rfl⟩
  obtain ⟨w8, ew8⟩ : ∃ w8, w7.alloc (.mapIter (some gm) clock #[] clock) = w8 := ⟨_, rfl⟩
  have C8 : CopyAt w1 w8 gc gp3 c3 gn r gm (.slice A5 n5 c5) (fun _ => .slice none 0 0) q es clock #[] := by
    have b68 : But (fun k => k = gc) w6 w8 := by rw [← ew8]; exact b67.alloc _
    have hnd : ∀ e, ¬ DoneE es #[] e := by rintro e ⟨x, _, _, hx⟩; simp at hx
    have h7 : w7.heap[gn]? = some (.map #[] 0) := by
      have h9 := heap_alloc_new (w6.setCell ⟨gc, 8, none⟩ (.map (some gn))) (.map #[] 0)
      rw [hsz6] at h9
      rw [← ew7]; exact h9
    have hs16 := B16.out.size
    refine ⟨?_, ?_, Hr6.out.but b68 (fun hk => hne34 hk), ?_, ?_, ?_, fun e ps hm hd => absurd hd (hnd e), fun e e' b hd => absurd hd (hnd e), ⟨by omega, by have := Hz2.out; omega, by omega, ?_⟩, HE6.out, fun e b hd => absurd hd (hnd e)⟩
    · rw [← ew8]; exact b17.alloc b17.size _
    · have h8 := heap_setCell_at Hbc6.out 8 (.map (some gn))
      simp only [List.setIfInBounds_toArray, List.set_cons_succ, List.set_cons_zero] at h8
      have h9 := (Below.heap_alloc _ (.map #[] 0) _ (lt_of_block h8)).trans h8
      rw [ew7] at h9
      rw [← ew8, Below.heap_alloc _ _ _ (lt_of_block h9), h9]
      rfl
    · refine Hs6.out.but b68 (fun b hb hk => ?_)
      obtain ⟨C, hC⟩ := Hs6.out.type hb
      exact ne_of_obj hC Hbc6.out (fun e => by injection e with _ e; revert e; decide) hk
    · refine ⟨#[], 0, by rw [← ew8, Below.heap_alloc _ _ _ (lt_of_block h7)]; exact h7, MapKept.stamped_empty 0, fun x hx => (by simp at hx), fun e hd => absurd hd (hnd e)⟩
    · rw [← ew8, ← er]; exact heap_alloc_new w7 _
    · rw [← er]; exact b17.size
  rw [er, ew8] at hrange
  rw [egn, ew7]
  clear ew7 ew8 er egn ew6 ew4 ew2
  have HC8 := Lib.hid C8
  have Hst := Lib.hid hst
  have Hk1 := Lib.hid hk1
  have Hk2 := Lib.hid hk2
  clear C8 b6s b67 b17 hgm7 hst hk1 hk2 hsz6 Hr6 Hs6 HE6
  go_wp2_with fail
  clear hrange g78
  go_loopg [] (leftOf es #[]).size (fun gk wr => ∃ seen R', Hid ((leftOf es seen).size = gk) ∧ Hid (CopyAt w1 wr gc gp3 c3 gn r gm (.slice A5 n5 c5) R' q es clock seen))
  case atStart => exact ⟨#[], _, Lib.hid rfl, HC8⟩
  case round =>
    obtain ⟨seen, R', hgk, HC⟩ := hrel
    have hgmr := blk_on hgm1 HC.out.bel
    rcases run_next_at (P := Try.prog) wr 0 r gm clock clock seen es clock HC.out.it hgmr Hst.out.1 (Nat.le_refl _) with ⟨h0, hrun⟩ | ⟨x, hx, wn0, hw, hrun⟩
    · have HF := Lib.hid (HC.out.done h0 (fun x hx => by obtain ⟨e, hp, hk, _⟩ := Hk1.out x hx; exact ⟨e, hp, hk⟩) Hk2.out)
      have HB := Lib.hid HC.out.bel
      clear hgmr h0
      go_wp2_with fail
      go_ret
      refine ⟨_, _, _, _, _, _, _, rfl, HF.out, fun k hk => by rw [esz]; exact hk.1, HB1.out.trans (by rw [esz]; exact HB.out)⟩
    · obtain ⟨hxe, hxb⟩ := mem_left hx
      have Hsh := Lib.hid (left_shrinks es seen x hx)
      obtain ⟨e, ⟨ps, hmem⟩, hke, hve⟩ := Hk1.out x hxe
      have hnb : But (fun k => k = r) wr (setBlock wn0 r (.mapIter (some gm) clock (seen.push x.born) clock)) := by
        rcases hw with rfl | rfl
        · exact setM_but _ _ _
        · exact (But.refl (fun k => k = r) wr).drew.trans (setM_but _ _ _)
      have hrn : (setBlock wn0 r (.mapIter (some gm) clock (seen.push x.born) clock)).heap[r]? = some (.mapIter (some gm) clock (seen.push x.born) clock) := by
        rcases hw with rfl | rfl
        · exact setM_at _ HC.out.it
        · exact setM_at (w := wr.drew) _ HC.out.it
      obtain ⟨wn, ewn⟩ : ∃ wn, setBlock wn0 r (.mapIter (some gm) clock (seen.push x.born) clock) = wn := ⟨_, rfl⟩
      rw [ewn] at hrun hnb hrn
      have hgr : gm ≠ r := ne_of_obj hgmr HC.out.it (by simp)
      have hgmn := hnb.blk hgmr hgr
      have hent := run_entry_at (P := Try.prog) wn r gm clock seen es clock x hrn hgmn hxe Hst.out.2.1
      rw [hke, hve] at hrun hent
      have hnd := not_done Hst.out hxe hke hxb
      have hM1 := HM1.out.below HC.out.bel
      have hRn : Sl wn 22 .u16 (R e) (portsOf q.lo ps) := (hM1.rows e ps hmem).but hnb (fun b hb hk => by
        obtain ⟨C, hC⟩ := (hM1.rows e ps hmem).type hb
        exact ne_of_obj hC HC.out.it (by simp) hk)
      obtain ⟨A6, n6, c6, e6⟩ := sl_form2 hRn
      rw [e6] at hrun hent hRn
      have hcn : gc ≠ r := ne_of_obj HC.out.box HC.out.it (by simp)
      have hboxn := hnb.blk HC.out.box hcn
      obtain ⟨es2, cl2, hgn2, _⟩ := id HC.out.map
      have hgnr : gn ≠ r := ne_of_obj hgn2 HC.out.it (by simp)
      have Hmn := Lib.hid (HC.out.map.but hnb hgnr)
      have hlen : (portsOf q.lo ps).length ≤ 65536 := by
        have h1 := hq.sizes.2 e ps hmem
        have := hq.hi; have := hq.lo
        simp [portsOf]; omega
      have Hbn := Lib.hid hboxn
      have Hof := Lib.hid (show ∀ W, Below wn.drew.heap.size wn.drew W → W.cell? ⟨gc, 8, none⟩ = some (.map (some gn)) from fun W hW => (cells10 (blk_on (show wn.drew.heap[gc]? = _ from hboxn) hW)).2.2.2.2.2.2.2.2.1)
      have Hcl := Lib.hid (fun W (hW : But (fun _ => False) wn.drew W) => clone_u16 (.slice A6 n6 c6) (portsOf q.lo ps) W ((hRn.but (But.refl (fun _ => False) wn).drew (fun _ _ x => x)).but hW (fun _ _ x => x)) hlen)
      have Hnd := Lib.hid hnd
      have Hnb := Lib.hid hnb
      have Hrn := Lib.hid hrn
      have Hmem := Lib.hid hmem
      have Hxe := Lib.hid hxe
      have Hxb := Lib.hid hxb
      have Hke := Lib.hid hke
      clear hgmr hx hw hnb hrn ewn hgr hgmn hnd hM1 hRn hcn hboxn hgn2 hgnr hlen hmem hxe hxb hke hve e6
      go_wp2_with fail
      refine wp_region_heldL (S := fun w' => w'.cell? ⟨gc, 8, none⟩ = some (.map (some gn))) 5 (by kernel_rfl) (Hof.out _ (Below.refl _ _)) (fun hHeld => ?_)
      have Hmd := Lib.hid (Hmn.out.but (But.refl (fun _ => False) wn).drew (fun x => x))
      obtain ⟨wd, ewd⟩ : ∃ wd, wn.drew = wd := ⟨_, rfl⟩
      have Hbd := Lib.hid (show Below wn.heap.size wn wd by rw [← ewd]; exact (Below.refl _ _).drew)
      rw [ewd] at hHeld Hof Hcl Hmd ⊢
      clear ewd Hmn
      refine anyHL_take (i := 0) (oi := { dst := some 41, op := Go.Op.fieldAddr 52 (Go.Operand.tmp 3) 6, type := 0, pos := "pool.go:117", after := #[], guard := none }) (v := ?_) rfl (by kernel_rfl) (by kernel_rfl) (by kernel_rfl) (by kernel_rfl) (fun _ _ _ h => h) (Or.inl ⟨by rfl, ?_⟩) (by assumption) ?_
      rotate_left 1
      · intro w' hSw; (go_simp <;> (with_reducible rfl))
      (try simp only [Act.put, List.setIfInBounds_toArray, List.set_cons_zero, List.set_cons_succ])
      refine anyHL_take (i := 1) (oi := { dst := some 42, op := Go.Op.load 49 (Go.Operand.tmp 41), type := 49, pos := "pool.go:117", after := #[{ on := 0, ground := Go.Ground.data }], guard := none }) (v := ?_) rfl (by kernel_rfl) (by kernel_rfl) (by kernel_rfl) (by kernel_rfl) (fun _ _ _ h => h) (Or.inl ⟨by rfl, ?_⟩) (by assumption) ?_
      rotate_left 1
      · intro w' hSw; (go_simp <;> (with_reducible rfl))
      (try simp only [Act.put, List.setIfInBounds_toArray, List.set_cons_zero, List.set_cons_succ])
      refine anyHL_take (i := 2) (oi := { dst := some 43, op := Go.Op.move (Go.Operand.tmp 4), type := 23, pos := "pool.go:117", after := #[], guard := none }) (v := ?_) rfl (by kernel_rfl) (by kernel_rfl) (by kernel_rfl) (by kernel_rfl) (fun _ _ _ h => h) (Or.inl ⟨by rfl, ?_⟩) (by assumption) ?_
      rotate_left 1
      · intro w' hSw; (go_simp <;> (with_reducible rfl))
      (try simp only [Act.put, List.setIfInBounds_toArray, List.set_cons_zero, List.set_cons_succ])
      refine anyHL_take (i := 3) (oi := { dst := some 44, op := Go.Op.move (Go.Operand.tmp 5), type := 61, pos := "pool.go:117", after := #[], guard := none }) (v := ?_) rfl (by kernel_rfl) (by kernel_rfl) (by kernel_rfl) (by kernel_rfl) (fun _ _ _ h => h) (Or.inl ⟨by rfl, ?_⟩) (by assumption) ?_
      rotate_left 1
      · intro w' hSw; (go_simp <;> (with_reducible rfl))
      (try simp only [Act.put, List.setIfInBounds_toArray, List.set_cons_zero, List.set_cons_succ])
      refine anyHL_one (i := 4) (o := { dst := some 45, op := Go.Op.call { callee := Go.Callee.value (Go.Operand.func 24), args := #[Go.Operand.tmp 44], argTypes := #[61] }, type := 61, pos := "pool.go:117", after := #[{ on := 3, ground := Go.Ground.data }], guard := none }) (by kernel_rfl) rfl (by kernel_rfl) (fun K hK => ?_)
      go_simp
      (refine (Hcl.out _ (But.refl _ _)).mono ?_; rintro e w5 ⟨A7, n7, c7, rfl, hs7, hb7, hbel7, _⟩; have Hs7 := Lib.hid hs7; have Hb7 := Lib.hid hb7; have Hbel7 := Lib.hid hbel7; clear hs7 hb7 hbel7)
      refine hK.out _ _ ?_ (fun hHeld => ?_)
      · exact Hof.out _ Hbel7.out
      clear hK K
      (try simp only [Act.put, List.setIfInBounds_toArray, List.set_cons_zero, List.set_cons_succ])
      obtain ⟨w6, hr6, hm6, hb6⟩ := ((Hmd.out.but (But.of (S := fun _ => False) Hbel7.out) (fun x => x)).put_new Hnd.out (.slice A7 n7 c7))
      refine anyHL_last (o := { dst := none, op := Go.Op.mapUpdate 49 (Go.Operand.tmp 42) (Go.Operand.tmp 43) (Go.Operand.tmp 45), type := 0, pos := "pool.go:117", after := #[{ on := 1, ground := Go.Ground.data }, { on := 2, ground := Go.Ground.data }, { on := 4, ground := Go.Ground.data }, { on := 4, ground := Go.Ground.chain }, { on := 0, ground := Go.Ground.phase }, { on := 1, ground := Go.Ground.phase }, { on := 2, ground := Go.Ground.phase }, { on := 3, ground := Go.Ground.phase }, { on := 4, ground := Go.Ground.phase }], guard := none }) (by kernel_rfl) rfl (by kernel_rfl) (fun K hK => ?_)
      go_simp
      skip
      refine hK.out _ _ ?_
      clear hK K
      (try simp only [Act.put, List.setIfInBounds_toArray, List.set_cons_zero, List.set_cons_succ])
      have HC6 := Lib.hid (HC.out.step Hst.out Hxe.out Hxb.out Hke.out Hmem.out (fun a ha => by
        obtain ⟨y, hy, hyk, _⟩ := ha
        obtain ⟨e', hp, hk', _⟩ := Hk1.out y hy
        rw [hyk] at hk'
        injection hk' with _ hk'
        rw [hk']; exact hp) (fun ps' h' => uniq_key hq.sorted Hmem.out h') Hnb.out Hrn.out (Hbd.out.trans (Hbel7.out.mono Hbd.out.size)) Hs7.out (fun b hb => Nat.le_trans Hbd.out.size (Hb7.out b hb)) hm6 hb6)
      have Hgk := Lib.hid hgk.out
      clear hm6 hb6 hr6 hgk
      go_wp2_with fail
      go_roundg (leftOf es (seen.push x.born)).size
      case measure => have := Hgk.out; have := Hsh.out; omega
      case rel => exact ⟨_, _, Lib.hid rfl, HC6⟩
end Go.Proofs.Ytlifldionfoddaa
