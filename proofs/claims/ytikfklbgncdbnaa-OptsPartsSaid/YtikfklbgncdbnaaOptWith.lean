/-
  The contracts of package opts' WithMss, WithScale, PermitSack, WithSacks.
-/
import Derived.Test.YtikfklbgncdbnaaOptRead
import Derived.Test.YtikfklbgncdbnaaWireLay
namespace Go.Proofs.Ytikfklbgncdbnaa
set_option maxRecDepth 10000
open Go.RowKit

/-- A result's cells are stored into, behind a row that is younger. -/
theorem with_set {w w1 : World} {kd : Int} {A : Option Addr} {m c : Nat} {D : List Int} {z : Nat} {t : TypeId} (hz : w.heap.size = z) (hb : Below (w.alloc (.cells #[.int .u8 0, .slice none 0 0] t)).heap.size (w.alloc (.cells #[.int .u8 0, .slice none 0 0] t)) w1) (h : OwnB w1 (w.alloc (.cells #[.int .u8 0, .slice none 0 0] t)).heap.size A m c D) :
    OwnB ((w1.setCell ⟨z, 0, none⟩ (.int .u8 kd)).setCell ⟨z, 1, none⟩ (.slice A m c)) w.heap.size A m c D ∧ Below w.heap.size w ((w1.setCell ⟨z, 0, none⟩ (.int .u8 kd)).setCell ⟨z, 1, none⟩ (.slice A m c)) := by
  have hset : But (fun k => k = z) w1 ((w1.setCell ⟨z, 0, none⟩ (.int .u8 kd)).setCell ⟨z, 1, none⟩ (.slice A m c)) := ((But.refl (fun k => k = z) _).setCell (p := ⟨z, 0, none⟩) rfl _).setCell (p := ⟨z, 1, none⟩) rfl _
  have hsz : (w.alloc (.cells #[.int .u8 0, .slice none 0 0] t)).heap.size = z + 1 := by simp [hz]
  have hba : Below w.heap.size w (w.alloc (.cells #[.int .u8 0, .slice none 0 0] t)) := (Below.refl _ _).alloc (Nat.le_refl _) _
  have h1 := hb.size
  exact ⟨(h.butA hset (fun k e => by have := (h.at_ e).1; omega)).mono (by omega), (hba.trans (hb.mono (by omega))).trans (hset.below (fun k hk => by omega) (by omega))⟩

theorem withmss_any (n : Int) (w : World) (hn : 0 ≤ n ∧ n < 65536) :
    Calls Try.prog 33 #[.int .u16 n] w (OptIs 2 2 (be16 n) w) := by
  obtain ⟨z, hz⟩ : ∃ z, w.heap.size = z := ⟨_, rfl⟩
  have Hu := Lib.hid (u16_lays none 0 0 [] n (w.alloc (.cells #[.int .u8 0, .slice none 0 0] 31)) hn (by simp [maxLen]) (by omega) (Rd.nil _ _))
  have hblk := heap_alloc_new w (.cells #[.int .u8 0, .slice none 0 0] 31)
  rw [hz] at hblk
  have Hblk := Lib.hid hblk
  clear hblk
  go_enter Try.func33, Try.ntmps33
  go_wp2_with fail
  refine Hu.out.mono ?_
  rintro e w1 ⟨A, c, rfl, hmc, hcm, hown, hb⟩
  have hb1 := blk_on Hblk.out hb
  have f0 := blk_free hb1 0
  have f1 := blk_free hb1 1
  have c0 := blk_cell hb1 0
  have c1 := blk_cell hb1 1
  have Hend := Lib.hid (with_set (kd := 2) hz hb hown)
  clear hown hb hb1
  go_wp2_with fail
  refine bodyPost_ret (v := .agg #[.int .u8 2, .slice A 2 c]) (by simp [results, Try.results33, go_sem, *]) rfl ?_
  exact ⟨A, c, rfl, Hend.out⟩

theorem withscale_at (n x : Int) (w : World) (hc : (n < 0 ∧ x = 0) ∨ (0 ≤ n ∧ 14 < n ∧ x = 14) ∨ (0 ≤ n ∧ n ≤ 14 ∧ x = n)) :
    Calls Try.prog 32 #[.int .i64 n] w (OptIs 3 1 [x] w) := by
  obtain ⟨z, hz⟩ : ∃ z, w.heap.size = z := ⟨_, rfl⟩
  have Hu := Lib.hid (u8_lays none 0 0 [] x (w.alloc (.cells #[.int .u8 0, .slice none 0 0] 31)) (by omega) (by simp [maxLen]) (by omega) (Rd.nil _ _))
  have hblk := heap_alloc_new w (.cells #[.int .u8 0, .slice none 0 0] 31)
  rw [hz] at hblk
  have Hblk := Lib.hid hblk
  clear hblk
  rcases hc with ⟨h1, rfl⟩ | ⟨h1, h2, rfl⟩ | ⟨h1, h2, rfl⟩
  · have hw8 : IntKind.u8.wrap 0 = 0 := by simp [IntKind.wrap, IntKind.bits, IntKind.signed]
    go_enter Try.func32, Try.ntmps32
    go_wp2_with fail
    refine Hu.out.mono ?_
    rintro e w1 ⟨A, c, rfl, hmc, hcm, hown, hb⟩
    have hb1 := blk_on Hblk.out hb
    have f0 := blk_free hb1 0
    have f1 := blk_free hb1 1
    have c0 := blk_cell hb1 0
    have c1 := blk_cell hb1 1
    have Hend := Lib.hid (with_set (kd := 3) hz hb hown)
    clear hown hb hb1
    go_wp2_with fail
    refine bodyPost_ret (v := .agg #[.int .u8 3, .slice A 1 c]) (by simp [results, Try.results32, go_sem, *]) rfl ?_
    exact ⟨A, c, rfl, Hend.out⟩
  · have hw8 : IntKind.u8.wrap 14 = 14 := by simp [IntKind.wrap, IntKind.bits, IntKind.signed]
    go_enter Try.func32, Try.ntmps32
    go_wp2_with fail
    refine Hu.out.mono ?_
    rintro e w1 ⟨A, c, rfl, hmc, hcm, hown, hb⟩
    have hb1 := blk_on Hblk.out hb
    have f0 := blk_free hb1 0
    have f1 := blk_free hb1 1
    have c0 := blk_cell hb1 0
    have c1 := blk_cell hb1 1
    have Hend := Lib.hid (with_set (kd := 3) hz hb hown)
    clear hown hb hb1
    go_wp2_with fail
    refine bodyPost_ret (v := .agg #[.int .u8 3, .slice A 1 c]) (by simp [results, Try.results32, go_sem, *]) rfl ?_
    exact ⟨A, c, rfl, Hend.out⟩
  · have hw8 : IntKind.u8.wrap x = x := by simp [IntKind.wrap, IntKind.bits, IntKind.signed]; omega
    go_enter Try.func32, Try.ntmps32
    go_wp2_with fail
    refine Hu.out.mono ?_
    rintro e w1 ⟨A, c, rfl, hmc, hcm, hown, hb⟩
    have hb1 := blk_on Hblk.out hb
    have f0 := blk_free hb1 0
    have f1 := blk_free hb1 1
    have c0 := blk_cell hb1 0
    have c1 := blk_cell hb1 1
    have Hend := Lib.hid (with_set (kd := 3) hz hb hown)
    clear hown hb hb1
    go_wp2_with fail
    refine bodyPost_ret (v := .agg #[.int .u8 3, .slice A 1 c]) (by simp [results, Try.results32, go_sem, *]) rfl ?_
    exact ⟨A, c, rfl, Hend.out⟩
theorem withscale_any (n : Int) (w : World) : Calls Try.prog 32 #[.int .i64 n] w (OptIs 3 1 [scaleOf n] w) := by
  refine withscale_at n (scaleOf n) w ?_
  unfold scaleOf
  by_cases h1 : n < 0
  · rw [if_pos h1]; exact .inl ⟨h1, rfl⟩
  · rw [if_neg h1]
    by_cases h2 : 14 < n
    · rw [if_pos h2]; exact .inr (.inl ⟨by omega, h2, rfl⟩)
    · rw [if_neg h2]; exact .inr (.inr ⟨by omega, by omega, rfl⟩)

theorem permit_any (w : World) : Calls Try.prog 34 #[] w (OptIs 4 0 [] w) := by
  go_enter Try.func34, Try.ntmps34
  go_wp2_with fail
  refine bodyPost_ret (v := .agg #[.int .u8 4, .slice none 0 0]) (by simp [results, Try.results34, go_sem, *]) rfl ?_
  exact ⟨none, 0, rfl, OwnB.nil _ _, (Below.refl _ _).alloc (Nat.le_refl _) _⟩

/-- What WithSacks tells of blocks. -/
theorem withsacks_any (A : Option Addr) (n c : Nat) (l : List (Int × Int)) (w : World) (hn : n ≤ 1000000) (hr : RdK w A n l) :
    Calls Try.prog 30 #[.slice A n c] w (WithSacksIs l w) := by
  have hl := hr.len
  by_cases h0 : n = 0
  · subst h0
    suffices hq : Calls Try.prog 30 #[.slice A 0 c] w (SacksBad 1 w) from hq.mono fun e w' he => by unfold WithSacksIs; rw [if_pos hl]; exact he
    clear hr hl
    go_enter Try.func30, Try.ntmps30
    go_wp2_with fail
    exact bodyPost_ret (v := .tuple #[.agg #[.int .u8 0, .slice none 0 0], .int .i64 1]) (by simp [results, Try.results30, go_sem]) rfl ⟨rfl, (Below.refl _ _).alloc (Nat.le_refl _) _⟩
  · by_cases h4 : 4 < n
    · suffices hq : Calls Try.prog 30 #[.slice A n c] w (SacksBad 3 w) from hq.mono fun e w' he => by unfold WithSacksIs; rw [if_neg (by omega), if_pos (by omega)]; exact he
      have hi0 : ((n : Int) == 0) = false := by simp; omega
      have hi4 : 4 < (n : Int) := by omega
      clear hr hl
      go_enter Try.func30, Try.ntmps30
      go_wp2_with fail
      exact bodyPost_ret (v := .tuple #[.agg #[.int .u8 0, .slice none 0 0], .int .i64 3]) (by simp [results, Try.results30, go_sem]) rfl ⟨rfl, (Below.refl _ _).alloc (Nat.le_refl _) _⟩
    · suffices hq : Calls Try.prog 30 #[.slice A n c] w (SacksGood n (blkBytes l) w) from hq.mono fun e w' he => by unfold WithSacksIs; rw [if_neg (by omega), if_neg (by omega), hl]; exact he
      have hi0 : ((n : Int) == 0) = false := by simp; omega
      have hi4 : (n : Int) ≤ 4 := by omega
      have Hl := Lib.hid hl
      have Hr := Lib.hid hr
      obtain ⟨z, hz⟩ : ∃ z, w.heap.size = z := ⟨_, rfl⟩
      have hblk := heap_alloc_new w (.cells #[.int .u8 0, .slice none 0 0] 31)
      rw [hz] at hblk
      have Hblk := Lib.hid hblk
      have Hba := Lib.hid (show Below z w (w.alloc (.cells #[.int .u8 0, .slice none 0 0] 31)) from (Below.refl _ _).alloc (by omega) _)
      have hsz : (w.alloc (.cells #[.int .u8 0, .slice none 0 0] 31)).heap.size = z + 1 := by simp [hz]
      clear hr hl hblk h4
      go_enter Try.func30, Try.ntmps30
      go_wp2_with fail
      go_loopg [4, 17] n (fun gk b i wr => ∃ (j : Nat) (A2 : Option Addr) (c2 : Nat), Hid (gk + j = n) ∧ j ≤ n ∧ i = .int .i64 (j : Int) ∧ b = .slice A2 (8 * j) c2 ∧ Hid (wr.heap[z]? = some (.cells #[.int .u8 0, .slice none 0 0] 31 (0, 0))) ∧ Hid (OwnB wr (z + 1) A2 (8 * j) c2 (blkBytes (l.take j))) ∧ Below z w wr)
      case atStart => exact ⟨0, none, 0, rfl, Nat.zero_le _, rfl, rfl, Hblk, Lib.hid (by simpa [blkBytes] using OwnB.nil _ _), Hba.out⟩
      case round =>
        obtain ⟨j, A2, c2, hgk, hj, rfl, rfl, hres, hown, hb⟩ := hrel
        have hwr : z + 1 ≤ wr.heap.size := lt_of_block hres.out
        by_cases hjn : j < n
        · obtain ⟨b1, p1, hrun1, hb1, hk0, hd0, hu⟩ := Hr.out.index_o (c := c) hjn
          have hsn := take_snoc_ l j (0, 0) (by rw [Hl.out]; exact hjn)
          obtain ⟨l1, el1⟩ : ∃ v, l.getD j (0, 0) = v := ⟨_, rfl⟩
          rw [el1] at hk0 hd0 hu hsn
          obtain ⟨x1, y1⟩ := l1
          simp only at hk0 hd0
          have Hsn := Lib.hid hsn
          have Hu := Lib.hid hu
          have hk1 := (hb.cell (p := ⟨b1, p1, none⟩) (by rw [hz] at hb1; exact hb1)).trans hk0
          have hd1 := (hb.cell (p := ⟨b1, p1 + 1, none⟩) (by rw [hz] at hb1; exact hb1)).trans hd0
          obtain ⟨g1, eg1⟩ : ∃ g1, wr.heap.size = g1 := ⟨_, rfl⟩
          have hbk := heap_alloc_new wr (.cells #[.int .u32 x1, .int .u32 y1] 55)
          rw [eg1] at hbk
          have hbx : Below wr.heap.size wr (wr.alloc (.cells #[.int .u32 x1, .int .u32 y1] 55)) := (Below.refl _ _).alloc (Nat.le_refl _) _
          have Hsof := Lib.hid (show ∀ w', Below (wr.alloc (.cells #[.int .u32 x1, .int .u32 y1] 55)).heap.size (wr.alloc (.cells #[.int .u32 x1, .int .u32 y1] 55)) w' → w'.cell? ⟨g1, 0, none⟩ = some (.int .u32 x1) ∧ w'.cell? ⟨g1, 1, none⟩ = some (.int .u32 y1) from fun w' h => ⟨blk_cell (blk_on hbk h) 0, blk_cell (blk_on hbk h) 1⟩)
          have Hrd := Lib.hid ((hown.out.rd (blkBytes_bytes _ (fun p hp => Hr.out.u32 p (List.mem_of_mem_take hp)))).below hbx)
          have Hbx := Lib.hid hbx
          have Hcap := Lib.hid (show 8 * j ≤ c2 ∧ c2 ≤ maxLen from ⟨hown.out.cap, hown.out.capMax⟩)
          clear el1 hsn hu hk0 hd0 hbk hbx
          go_wp2_with fail
          refine wp_region_held_drew (S := fun w' => w'.cell? ⟨g1, 0, none⟩ = some (.int .u32 x1) ∧ w'.cell? ⟨g1, 1, none⟩ = some (.int .u32 y1)) (by kernel_rfl) (Hsof.out _ (Below.drew (Below.refl _ _))) (fun hHeld => ?_)
          refine wpAnyH_take (i := 0) (oi := { dst := some 21, op := Go.Op.move (Go.Operand.tmp 4), type := 22, pos := "opts.go:152", after := #[], guard := none }) (v := ?_) rfl (by kernel_rfl) (by kernel_rfl) (by kernel_rfl) (fun _ _ _ h => h) (Or.inl ⟨by rfl, ?_⟩) (by assumption) ?_
          rotate_left 1
          · intro w' hSw; (go_simp <;> (with_reducible rfl))
          (try simp only [Act.put, List.setIfInBounds_toArray, List.set_cons_zero, List.set_cons_succ])
          refine wpAnyH_take (i := 1) (oi := { dst := some 22, op := Go.Op.fieldAddr 55 (Go.Operand.tmp 6) 0, type := 0, pos := "opts.go:152", after := #[], guard := none }) (v := ?_) rfl (by kernel_rfl) (by kernel_rfl) (by kernel_rfl) (fun _ _ _ h => h) (Or.inl ⟨by rfl, ?_⟩) (by assumption) ?_
          rotate_left 1
          · intro w' hSw; (go_simp <;> (with_reducible rfl))
          (try simp only [Act.put, List.setIfInBounds_toArray, List.set_cons_zero, List.set_cons_succ])
          refine wpAnyH_take (i := 2) (oi := { dst := some 23, op := Go.Op.load 53 (Go.Operand.tmp 22), type := 53, pos := "opts.go:152", after := #[{ on := 1, ground := Go.Ground.data }], guard := none }) (v := ?_) rfl (by kernel_rfl) (by kernel_rfl) (by kernel_rfl) (fun _ _ _ h => h) (Or.inl ⟨by rfl, ?_⟩) (by assumption) ?_
          rotate_left 1
          · intro w' hSw; (go_simp <;> (with_reducible rfl))
          (try simp only [Act.put, List.setIfInBounds_toArray, List.set_cons_zero, List.set_cons_succ])
          refine wpAnyH_take (i := 4) (oi := { dst := some 25, op := Go.Op.fieldAddr 55 (Go.Operand.tmp 6) 1, type := 0, pos := "opts.go:152", after := #[], guard := none }) (v := ?_) rfl (by kernel_rfl) (by kernel_rfl) (by kernel_rfl) (fun _ _ _ h => h) (Or.inl ⟨by rfl, ?_⟩) (by assumption) ?_
          rotate_left 1
          · intro w' hSw; (go_simp <;> (with_reducible rfl))
          (try simp only [Act.put, List.setIfInBounds_toArray, List.set_cons_zero, List.set_cons_succ])
          refine wpAnyH_take (i := 5) (oi := { dst := some 26, op := Go.Op.load 53 (Go.Operand.tmp 25), type := 53, pos := "opts.go:152", after := #[{ on := 4, ground := Go.Ground.data }], guard := none }) (v := ?_) rfl (by kernel_rfl) (by kernel_rfl) (by kernel_rfl) (fun _ _ _ h => h) (Or.inl ⟨by rfl, ?_⟩) (by assumption) ?_
          rotate_left 1
          · intro w' hSw; (go_simp <;> (with_reducible rfl))
          (try simp only [Act.put, List.setIfInBounds_toArray, List.set_cons_zero, List.set_cons_succ])
          refine wpAnyH_ready (rs := [3]) (by kernel_rfl) (by simp) ?_
          refine AllReadyH.cons (o := { dst := some 24, op := Go.Op.call { callee := Go.Callee.value (Go.Operand.func 57), args := #[Go.Operand.tmp 21, Go.Operand.tmp 23], argTypes := #[22, 53] }, type := 22, pos := "opts.go:152", after := #[{ on := 0, ground := Go.Ground.data }, { on := 2, ground := Go.Ground.data }], guard := none }) rfl (fun K hK => ?_) AllReadyH.nil
          go_simp
          (go_at_call 57; refine (u32_lays A2 (8 * j) c2 _ x1 _ Hu.out.1 Hcap.out (by omega) (Hrd.out.below (Below.drew (Below.refl _ _)))).mono ?_; rintro e w4 ⟨A4, c4, rfl, hk4, hm4, hown4, hb4⟩; have HF4 := Lib.hid (show Below (wr.alloc (.cells #[.int .u32 x1, .int .u32 y1] 55)).heap.size (wr.alloc (.cells #[.int .u32 x1, .int .u32 y1] 55)) w4 from (Below.drew (Below.refl _ _)).trans hb4); have Hown4 := Lib.hid (hown4.rd (bytes_app_ Hrd.out.byte (be4_bytes Hu.out.1))); have Hcap4 := Lib.hid (And.intro hk4 hm4); clear hown4 hb4 hk4 hm4)
          refine hK.out _ _ ?_ (fun hHeld => ?_)
          · exact Hsof.out _ HF4.out
          clear hK K
          (try simp only [Act.put, List.setIfInBounds_toArray, List.set_cons_zero, List.set_cons_succ])
          refine wpAnyH_ready (rs := [6]) (by kernel_rfl) (by simp) ?_
          refine AllReadyH.cons (o := { dst := some 27, op := Go.Op.call { callee := Go.Callee.value (Go.Operand.func 57), args := #[Go.Operand.tmp 24, Go.Operand.tmp 26], argTypes := #[22, 53] }, type := 22, pos := "opts.go:152", after := #[{ on := 3, ground := Go.Ground.data }, { on := 5, ground := Go.Ground.data }, { on := 3, ground := Go.Ground.chain }], guard := none }) rfl (fun K hK => ?_) AllReadyH.nil
          go_simp
          (go_at_call 57; refine (u32_lays A4 (8 * j + 4) c4 _ y1 _ Hu.out.2 Hcap4.out (by omega) Hown4.out).mono ?_; rintro e w5 ⟨A5, c5, rfl, hk5, hm5, hown5, hb5⟩; have HF5 := Lib.hid (below_trans HF4.out hb5); have Hown5 := Lib.hid (hown5.mono HF4.out.size); clear hown5 hb5)
          refine hK.out _ _ ?_ (fun hHeld => ?_)
          · exact Hsof.out _ HF5.out
          clear hK K
          (try simp only [Act.put, List.setIfInBounds_toArray, List.set_cons_zero, List.set_cons_succ])
          refine wpAnyH_take (i := 7) (oi := { dst := some 4, op := Go.Op.assign (Go.Operand.tmp 27), type := 22, pos := "opts.go:152", after := #[{ on := 6, ground := Go.Ground.data }, { on := 6, ground := Go.Ground.chain }, { on := 0, ground := Go.Ground.phase }, { on := 1, ground := Go.Ground.phase }, { on := 2, ground := Go.Ground.phase }, { on := 3, ground := Go.Ground.phase }, { on := 4, ground := Go.Ground.phase }, { on := 5, ground := Go.Ground.phase }, { on := 6, ground := Go.Ground.phase }], guard := none }) (v := ?_) rfl (by kernel_rfl) (by kernel_rfl) (by kernel_rfl) (fun _ _ _ h => h) (Or.inl ⟨by rfl, ?_⟩) (by assumption) ?_
          rotate_left 1
          · intro w' hSw; (go_simp <;> (with_reducible rfl))
          (try simp only [Act.put, List.setIfInBounds_toArray, List.set_cons_zero, List.set_cons_succ])
          refine wpAnyH_done (by kernel_rfl) ?_ _
          have HB5 := Lib.hid (below_trans Hbx.out HF5.out)
          have HO5 := Lib.hid (blk_on hres.out HB5.out)
          have hsz5 := Hbx.out.size
          go_wp2_with fail
          go_roundg (gk - 1)
          case measure => have := hgk.out; omega
          case rel => exact ⟨j + 1, A5, c5, by have := hgk.out; show gk - 1 + (j + 1) = _; omega, by omega, by go_num, by rw [show 8 * j + 4 + 4 = 8 * (j + 1) by omega], HO5, Lib.hid (by
            rw [Hsn.out, show blkBytes (l.take j ++ [(x1, y1)]) = blkBytes (l.take j) ++ be4 x1 ++ be4 y1 by simp [blkBytes]]
            have h1 := Hown5.out.mono (B' := z + 1) (by omega)
            rw [show 8 * j + 4 + 4 = 8 * (j + 1) by omega] at h1
            exact h1), hb.trans (HB5.out.mono (by omega))⟩
        · obtain rfl : n = j := by omega
          have ho := hown.out
          rw [List.take_of_length_le (by rw [Hl.out]; omega)] at ho
          have f0 := blk_free hres.out 0
          have f1 := blk_free hres.out 1
          have c0 := blk_cell hres.out 0
          have c1 := blk_cell hres.out 1
          have hset : But (fun k => k = z) wr ((wr.setCell ⟨z, 0, none⟩ (.int .u8 5)).setCell ⟨z, 1, none⟩ (.slice A2 (8 * n) c2)) := ((But.refl (fun k => k = z) _).setCell (p := ⟨z, 0, none⟩) rfl _).setCell (p := ⟨z, 1, none⟩) rfl _
          have Hend := Lib.hid (show OwnB ((wr.setCell ⟨z, 0, none⟩ (.int .u8 5)).setCell ⟨z, 1, none⟩ (.slice A2 (8 * n) c2)) w.heap.size A2 (8 * n) c2 (blkBytes l) ∧ Below w.heap.size w ((wr.setCell ⟨z, 0, none⟩ (.int .u8 5)).setCell ⟨z, 1, none⟩ (.slice A2 (8 * n) c2)) from
            ⟨(ho.butA hset (fun k e => by have := (ho.at_ e).1; omega)).mono (by omega), by rw [hz]; exact hb.trans (hset.below (fun k hk => by omega) (by omega))⟩)
          clear ho hset hown hres
          go_wp2_with fail
          refine bodyPost_ret (v := .tuple #[.agg #[.int .u8 5, .slice A2 (8 * n) c2], .int .i64 0]) (by simp [results, Try.results30, go_sem, *]) rfl ?_
          exact ⟨A2, c2, rfl, Hend.out⟩
end Go.Proofs.Ytikfklbgncdbnaa
