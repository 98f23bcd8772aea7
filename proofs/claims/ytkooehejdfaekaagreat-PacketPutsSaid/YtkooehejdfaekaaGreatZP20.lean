/-
  Texts laid together: IcmpPut, IcmpParse, IcmpBoth, Payload.
-/
import Derived.Test.YtkooehejdfaekaaGreatZP19
import Derived.Test.YtkooehejdfaekaaGreatZP02
import Derived.BigRegion
import Derived.Deep.DeepCutAuto
import Derived.Deep.CutRange
import Derived.Deep.RegionHeld3
import Derived.Test.YtkooehejdfaekaaGreatZP09
import Derived.Test.YtkooehejdfaekaaGreatZP01
import Derived.Test.YtkooehejdfaekaaGreatZP17
import Derived.Test.YtkooehejdfaekaaGreatZP18

/-
  The contract of package icmp's Put.
-/
namespace Go.Proofs.YtkooehejdfaekaaGreat
set_option maxRecDepth 10000
open Go.RowKit
set_option linter.unusedSimpArgs false
set_option linter.unusedVariables false

theorem field_skip (s : Msg) : 65535 - sumL [headM s, be32 s.rs, s.d].flatten = fieldM s := by
  have e : ws false (headM s ++ (be16 0 ++ tailM s)) = ws false (headM s ++ tailM s) := by
    rw [ws_even _ _ (by simp [headM]), ws_even _ _ (by simp [be16]), ws_b16, ws_even (headM s) _ (by simp [headM])]; omega
  unfold fieldM sumL
  rw [e]
  simp [tailM]
theorem flat_msgB (s : Msg) (f : Int) (hf : fieldM s = f) : [headM s, be16 f, be32 s.rs, s.d].flatten = msgB s := by
  unfold msgB tailM; rw [hf]; simp
theorem headM_bytes (ty cd : Int) (h : 0 ≤ ty ∧ ty < 256) (h' : 0 ≤ cd ∧ cd < 256) : ∀ x ∈ [ty, cd], 0 ≤ x ∧ x < 256 := by intro x hx; simp at hx; omega
theorem RdL.threeM (w : World) (g : Nat) (hg : w.heap.size = g) (t : TypeId) (A B C : Option Addr) (n c n1 c1 n2 c2 : Nat) (l l1 l2 : List Int)
    (hc : n ≤ c ∧ c ≤ maxLen) (hc1 : n1 ≤ c1 ∧ c1 ≤ maxLen) (hc2 : n2 ≤ c2 ∧ c2 ≤ maxLen) (h : Rd w A n l) (h1 : Rd w B n1 l1) (h2 : Rd w C n2 l2) :
    RdL (w.alloc (.cells #[.slice A n c, .slice B n1 c1, .slice C n2 c2] t)) (some ⟨g, 0, none⟩) 3 [l, l1, l2] := by
  have := h.len; have := h1.len; have := h2.len
  subst n n1 n2
  refine RdL.row w g hg t (0, 0) [.slice A l.length c, .slice B l1.length c1, .slice C l2.length c2] [l, l1, l2] (fun i hi => ?_)
  match i, hi with
  | 0, _ => exact ⟨A, c, rfl, hc.1, hc.2, h⟩
  | 1, _ => exact ⟨B, c1, rfl, hc1.1, hc1.2, h1⟩
  | 2, _ => exact ⟨C, c2, rfl, hc2.1, hc2.2, h2⟩
theorem RdL.fourM (w : World) (g : Nat) (hg : w.heap.size = g) (t : TypeId) (A B C D : Option Addr) (n c n1 c1 n2 c2 n3 c3 : Nat) (l l1 l2 l3 : List Int)
    (hc : n ≤ c ∧ c ≤ maxLen) (hc1 : n1 ≤ c1 ∧ c1 ≤ maxLen) (hc2 : n2 ≤ c2 ∧ c2 ≤ maxLen) (hc3 : n3 ≤ c3 ∧ c3 ≤ maxLen) (h : Rd w A n l) (h1 : Rd w B n1 l1) (h2 : Rd w C n2 l2) (h3 : Rd w D n3 l3) :
    RdL (w.alloc (.cells #[.slice A n c, .slice B n1 c1, .slice C n2 c2, .slice D n3 c3] t)) (some ⟨g, 0, none⟩) 4 [l, l1, l2, l3] := by
  have := h.len; have := h1.len; have := h2.len; have := h3.len
  subst n n1 n2 n3
  refine RdL.row w g hg t (0, 0) [.slice A l.length c, .slice B l1.length c1, .slice C l2.length c2, .slice D l3.length c3] [l, l1, l2, l3] (fun i hi => ?_)
  match i, hi with
  | 0, _ => exact ⟨A, c, rfl, hc.1, hc.2, h⟩
  | 1, _ => exact ⟨B, c1, rfl, hc1.1, hc1.2, h1⟩
  | 2, _ => exact ⟨C, c2, rfl, hc2.1, hc2.2, h2⟩
  | 3, _ => exact ⟨D, c3, rfl, hc3.1, hc3.2, h3⟩

theorem put8_bad (ty cd rs : Int) (A : Option Addr) (n c : Nat) (w : World) (hn : 1472 < n) :
    Calls Tryz.prog 44 #[.agg #[.int .u8 ty, .int .u8 cd, .int .u32 rs, .slice A n c]] w (PutM [] 0 3 w) := by
  have hni : (1472 : Int) < (n : Int) := by omega
  have Hb := Lib.hid ((Below.refl w.heap.size w).alloc (Nat.le_refl _) (.cells #[.int .u8 ty, .int .u8 cd, .int .u32 rs, .slice A n c] 33))
  go_enter Tryz.func44, Tryz.ntmps44
  go_wp2_with fail
  go_ret2
  exact ⟨none, 0, rfl, Nat.le_refl _, by simp [maxLen], OwnB.nil _ _, Hb.out⟩

set_option maxHeartbeats 1000000 in
theorem put8_ok (s : Msg) (A : Option Addr) (n c : Nat) (w : World) (hnum : MsgNum s) (hc : n ≤ c ∧ c ≤ maxLen) (hr : Rd w A n s.d) (hn : n ≤ 1472) :
    Calls Tryz.prog 44 #[.agg #[.int .u8 s.ty, .int .u8 s.cd, .int .u32 s.rs, .slice A n c]] w (PutM (msgB s) (8 + n) 0 w) := by
  have hf := fieldM_bd s
  obtain ⟨f, ef⟩ : ∃ f, fieldM s = f := ⟨_, rfl⟩
  rw [ef] at hf
  have hfs := field_skip s
  rw [ef] at hfs
  have hlm : (msgB s).length = 8 + n := by rw [msgB_len, hr.len]
  have hln := hr.len
  obtain ⟨ty, cd, rs, d⟩ := s
  have ht := hnum.ty
  have hcd := hnum.cd
  have hrs := hnum.rs
  simp only at hr ht hcd hrs hfs hln ⊢
  obtain ⟨z, hz⟩ : ∃ z, w.heap.size = z := ⟨_, rfl⟩
  obtain ⟨w0, ew⟩ : ∃ w0, w.alloc (.cells #[.int .u8 ty, .int .u8 cd, .int .u32 rs, .slice A n c] 33) = w0 := ⟨_, rfl⟩
  have hb0 : Below w.heap.size w w0 := by rw [← ew]; exact (Below.refl _ _).alloc (Nat.le_refl _) _
  have hk : w0.heap[z]? = some (.cells #[.int .u8 ty, .int .u8 cd, .int .u32 rs, .slice A n c] 33 (0, 0)) := by rw [← ew, ← hz]; exact heap_alloc_new w _
  have HK := Lib.hid (show ∀ w', Below w0.heap.size w0 w' → (w'.cell? ⟨z, 0, none⟩ = some (.int .u8 ty) ∧ w'.cell? ⟨z, 1, none⟩ = some (.int .u8 cd) ∧ w'.cell? ⟨z, 2, none⟩ = some (.int .u32 rs) ∧ w'.cell? ⟨z, 3, none⟩ = some (.slice A n c)) ∧ Rd w' A n d from fun w' hb => ⟨cells4 (blk_on hk hb), (hr.below hb0).below hb⟩)
  have Hb0 := Lib.hid hb0
  have Hew := Lib.hid ew
  have Hfs := Lib.hid hfs
  have Hef := Lib.hid ef
  have Hlm := Lib.hid hlm
  have Hln := Lib.hid hln
  have Hf := Lib.hid (show 0 ≤ f ∧ f < 65536 by omega)
  have Hc := Lib.hid hc
  have Hbt := Lib.hid (headM_bytes ty cd ht hcd)
  have hni : ¬ (1472 : Int) < (n : Int) := by omega
  obtain ⟨⟨c0, c1, c2, c3⟩, _⟩ := HK.out w0 (Below.refl _ _)
  clear hk hb0 ew hr hfs ef hlm hnum ht hcd hf hln hc
  go_enter Tryz.func44, Tryz.ntmps44
  go_upto_region 1 with (fail)
  rw [Hew.out]
  go_upto_region 3 with (fail)
  clear c0 c1 c2 c3
  go_cut [4, 5] (fun s4 s5 wx => ∃ (g4 : Nat) (A5 : Option Addr) (c5 : Nat), s4 = .slice (some ⟨g4, 0, none⟩) 2 2 ∧ s5 = .slice A5 4 c5 ∧ Hid (Rd wx (some ⟨g4, 0, none⟩) 2 [ty, cd]) ∧ Hid (Rd wx A5 4 (be32 rs)) ∧ Hid (4 ≤ c5 ∧ c5 ≤ maxLen) ∧ Hid (Below w0.heap.size w0 wx))
  case first =>
    have Hd := Lib.hid (Below.drew (Below.refl w0.heap.size w0))
    refine wp_region_noPanic ?_
    refine wp_region_held_drew (S := fun w' => (w'.cell? ⟨z, 0, none⟩ = some (.int .u8 ty) ∧ w'.cell? ⟨z, 1, none⟩ = some (.int .u8 cd) ∧ w'.cell? ⟨z, 2, none⟩ = some (.int .u32 rs) ∧ w'.cell? ⟨z, 3, none⟩ = some (.slice A n c))) (by kernel_rfl) (HK.out _ Hd.out).1 (fun hHeld => ?_)
    obtain ⟨wd, ewd⟩ : ∃ wd, w0.drew = wd := ⟨_, rfl⟩
    rw [ewd] at Hd hHeld ⊢
    clear ewd
    refine wpAnyH_take (i := 0) (oi := { dst := some 11, op := Go.Op.fieldAddr 33 (Go.Operand.tmp 1) 0, type := 0, pos := "icmp.go:57", after := #[], guard := none }) (v := ?_) rfl (by kernel_rfl) (by kernel_rfl) (by kernel_rfl) (fun _ _ _ h => h) (Or.inl ⟨by rfl, ?_⟩) (by assumption) ?_
    rotate_left 1
    · intro w' hSw; (go_simp <;> (with_reducible rfl))
    (try simp only [Act.put, List.setIfInBounds_toArray, List.set_cons_zero, List.set_cons_succ])
    refine wpAnyH_take (i := 1) (oi := { dst := some 12, op := Go.Op.load 5 (Go.Operand.tmp 11), type := 5, pos := "icmp.go:57", after := #[{ on := 0, ground := Go.Ground.data }], guard := none }) (v := ?_) rfl (by kernel_rfl) (by kernel_rfl) (by kernel_rfl) (fun _ _ _ h => h) (Or.inl ⟨by rfl, ?_⟩) (by assumption) ?_
    rotate_left 1
    · intro w' hSw; (go_simp <;> (with_reducible rfl))
    (try simp only [Act.put, List.setIfInBounds_toArray, List.set_cons_zero, List.set_cons_succ])
    refine wpAnyH_take (i := 2) (oi := { dst := some 13, op := Go.Op.fieldAddr 33 (Go.Operand.tmp 1) 1, type := 0, pos := "icmp.go:57", after := #[], guard := none }) (v := ?_) rfl (by kernel_rfl) (by kernel_rfl) (by kernel_rfl) (fun _ _ _ h => h) (Or.inl ⟨by rfl, ?_⟩) (by assumption) ?_
    rotate_left 1
    · intro w' hSw; (go_simp <;> (with_reducible rfl))
    (try simp only [Act.put, List.setIfInBounds_toArray, List.set_cons_zero, List.set_cons_succ])
    refine wpAnyH_take (i := 3) (oi := { dst := some 14, op := Go.Op.load 5 (Go.Operand.tmp 13), type := 5, pos := "icmp.go:57", after := #[{ on := 2, ground := Go.Ground.data }], guard := none }) (v := ?_) rfl (by kernel_rfl) (by kernel_rfl) (by kernel_rfl) (fun _ _ _ h => h) (Or.inl ⟨by rfl, ?_⟩) (by assumption) ?_
    rotate_left 1
    · intro w' hSw; (go_simp <;> (with_reducible rfl))
    (try simp only [Act.put, List.setIfInBounds_toArray, List.set_cons_zero, List.set_cons_succ])
    refine wpAnyH_take (i := 5) (oi := { dst := some 16, op := Go.Op.fieldAddr 33 (Go.Operand.tmp 1) 2, type := 0, pos := "icmp.go:57", after := #[], guard := none }) (v := ?_) rfl (by kernel_rfl) (by kernel_rfl) (by kernel_rfl) (fun _ _ _ h => h) (Or.inl ⟨by rfl, ?_⟩) (by assumption) ?_
    rotate_left 1
    · intro w' hSw; (go_simp <;> (with_reducible rfl))
    (try simp only [Act.put, List.setIfInBounds_toArray, List.set_cons_zero, List.set_cons_succ])
    refine wpAnyH_take (i := 6) (oi := { dst := some 17, op := Go.Op.load 23 (Go.Operand.tmp 16), type := 23, pos := "icmp.go:57", after := #[{ on := 5, ground := Go.Ground.data }], guard := none }) (v := ?_) rfl (by kernel_rfl) (by kernel_rfl) (by kernel_rfl) (fun _ _ _ h => h) (Or.inl ⟨by rfl, ?_⟩) (by assumption) ?_
    rotate_left 1
    · intro w' hSw; (go_simp <;> (with_reducible rfl))
    (try simp only [Act.put, List.setIfInBounds_toArray, List.set_cons_zero, List.set_cons_succ])
    refine wpAnyH_ready (rs := [4, 7]) (by kernel_rfl) (by simp) ?_
    refine AllReadyH.cons (o := { dst := some 15, op := Go.Op.buildSlice 24 2 #[(0, Go.Operand.tmp 12), (1, Go.Operand.tmp 14)], type := 24, pos := "icmp.go:57", after := #[{ on := 1, ground := Go.Ground.data }, { on := 3, ground := Go.Ground.data }], guard := none }) rfl (fun K hK => ?_) (AllReadyH.cons (o := { dst := some 18, op := Go.Op.call { callee := Go.Callee.value (Go.Operand.func 64), args := #[Go.Operand.const (Go.Value.slice none 0 0), Go.Operand.tmp 17], argTypes := #[24, 23] }, type := 24, pos := "icmp.go:57", after := #[{ on := 6, ground := Go.Ground.data }], guard := none }) rfl (fun K hK => ?_) AllReadyH.nil)
    · have hba := (Below.refl wd.heap.size wd).alloc (Nat.le_refl _) (.cells #[.int .u8 ty, .int .u8 cd] 5)
      have Hd2 := Lib.hid (below_trans Hd.out hba)
      have Hr4 := Lib.hid (Rd.const wd [ty, cd] 5 (0, 0) Hbt.out)
      go_simp
      refine hK.out _ _ ?_ (fun hHeld => ?_)
      · exact (HK.out _ Hd2.out).1
      clear hK K
      (try simp only [Act.put, List.setIfInBounds_toArray, List.set_cons_zero, List.set_cons_succ])
      refine wpAnyH_ready (rs := [7]) (by kernel_rfl) (by simp) ?_
      refine AllReadyH.cons (o := { dst := some 18, op := Go.Op.call { callee := Go.Callee.value (Go.Operand.func 64), args := #[Go.Operand.const (Go.Value.slice none 0 0), Go.Operand.tmp 17], argTypes := #[24, 23] }, type := 24, pos := "icmp.go:57", after := #[{ on := 6, ground := Go.Ground.data }], guard := none }) rfl (fun K hK => ?_) AllReadyH.nil
      (try go_simp)
      refine (u32_lays none 0 0 [] rs _ hrs (by simp [maxLen]) (by omega) (Rd.nil _ _)).mono ?_
      rintro e w6 ⟨A5, c5, rfl, hk5, hm5, ho5, hb5⟩
      rw [List.nil_append, Nat.zero_add] at ho5
      rw [Nat.zero_add] at hk5
      have Ho5 := Lib.hid ho5
      have Hb5 := Lib.hid hb5
      refine hK.out _ _ ?_ (fun hHeld => ?_)
      · exact (HK.out _ (below_trans Hd2.out Hb5.out)).1
      clear hK K ho5 hb5
      (try simp only [Act.put, List.setIfInBounds_toArray, List.set_cons_zero, List.set_cons_succ])
      refine wpAnyH_take (i := 8) (oi := { dst := some 4, op := Go.Op.assign (Go.Operand.tmp 15), type := 24, pos := "icmp.go:57", after := #[{ on := 4, ground := Go.Ground.data }, { on := 7, ground := Go.Ground.chain }, { on := 0, ground := Go.Ground.phase }, { on := 1, ground := Go.Ground.phase }, { on := 2, ground := Go.Ground.phase }, { on := 3, ground := Go.Ground.phase }, { on := 4, ground := Go.Ground.phase }, { on := 5, ground := Go.Ground.textOnly Go.Departure.lateStores }, { on := 6, ground := Go.Ground.textOnly Go.Departure.lateStores }, { on := 7, ground := Go.Ground.textOnly Go.Departure.lateStoresUnsure }], guard := none }) (v := ?_) rfl (by kernel_rfl) (by kernel_rfl) (by kernel_rfl) (fun _ _ _ h => h) (Or.inl ⟨by rfl, ?_⟩) (by assumption) ?_
      rotate_left 1
      · intro w' hSw; (go_simp <;> (with_reducible rfl))
      (try simp only [Act.put, List.setIfInBounds_toArray, List.set_cons_zero, List.set_cons_succ])
      refine wpAnyH_take (i := 9) (oi := { dst := some 5, op := Go.Op.assign (Go.Operand.tmp 18), type := 24, pos := "icmp.go:57", after := #[{ on := 7, ground := Go.Ground.data }, { on := 8, ground := Go.Ground.chain }, { on := 0, ground := Go.Ground.phase }, { on := 1, ground := Go.Ground.phase }, { on := 2, ground := Go.Ground.phase }, { on := 3, ground := Go.Ground.phase }, { on := 4, ground := Go.Ground.phase }, { on := 5, ground := Go.Ground.phase }, { on := 6, ground := Go.Ground.phase }, { on := 7, ground := Go.Ground.phase }, { on := 8, ground := Go.Ground.phase }], guard := none }) (v := ?_) rfl (by kernel_rfl) (by kernel_rfl) (by kernel_rfl) (fun _ _ _ h => h) (Or.inl ⟨by rfl, ?_⟩) (by assumption) ?_
      rotate_left 1
      · intro w' hSw; (go_simp <;> (with_reducible rfl))
      (try simp only [Act.put, List.setIfInBounds_toArray, List.set_cons_zero, List.set_cons_succ])
      refine wpAnyH_done (by kernel_rfl) ?_ _
      refine NoPanic.normal ?_
      go_wp2_with fail
      go_meet
      exact ⟨wd.heap.size, A5, c5, rfl, rfl, Lib.hid (Hr4.out.below Hb5.out), Lib.hid (Ho5.out.rd (be32_by hrs)), Lib.hid ⟨hk5, hm5⟩, Lib.hid (below_trans Hd2.out Hb5.out)⟩
    · 
      (try go_simp)
      refine (u32_lays none 0 0 [] rs _ hrs (by simp [maxLen]) (by omega) (Rd.nil _ _)).mono ?_
      rintro e w6 ⟨A5, c5, rfl, hk5, hm5, ho5, hb5⟩
      rw [List.nil_append, Nat.zero_add] at ho5
      rw [Nat.zero_add] at hk5
      have Ho5 := Lib.hid ho5
      have Hb5 := Lib.hid hb5
      refine hK.out _ _ ?_ (fun hHeld => ?_)
      · exact (HK.out _ (below_trans Hd.out Hb5.out)).1
      clear hK K ho5 hb5
      (try simp only [Act.put, List.setIfInBounds_toArray, List.set_cons_zero, List.set_cons_succ])
      refine wpAnyH_ready (rs := [4]) (by kernel_rfl) (by simp) ?_
      refine AllReadyH.cons (o := { dst := some 15, op := Go.Op.buildSlice 24 2 #[(0, Go.Operand.tmp 12), (1, Go.Operand.tmp 14)], type := 24, pos := "icmp.go:57", after := #[{ on := 1, ground := Go.Ground.data }, { on := 3, ground := Go.Ground.data }], guard := none }) rfl (fun K hK => ?_) AllReadyH.nil
      have hba := (Below.refl w6.heap.size w6).alloc (Nat.le_refl _) (.cells #[.int .u8 ty, .int .u8 cd] 5)
      have Hd2 := Lib.hid (below_trans (below_trans Hd.out Hb5.out) hba)
      have Hr4 := Lib.hid (Rd.const w6 [ty, cd] 5 (0, 0) Hbt.out)
      have Hr5 := Lib.hid ((Ho5.out.rd (be32_by hrs)).below hba)
      go_simp
      refine hK.out _ _ ?_ (fun hHeld => ?_)
      · exact (HK.out _ Hd2.out).1
      clear hK K
      (try simp only [Act.put, List.setIfInBounds_toArray, List.set_cons_zero, List.set_cons_succ])
      refine wpAnyH_take (i := 8) (oi := { dst := some 4, op := Go.Op.assign (Go.Operand.tmp 15), type := 24, pos := "icmp.go:57", after := #[{ on := 4, ground := Go.Ground.data }, { on := 7, ground := Go.Ground.chain }, { on := 0, ground := Go.Ground.phase }, { on := 1, ground := Go.Ground.phase }, { on := 2, ground := Go.Ground.phase }, { on := 3, ground := Go.Ground.phase }, { on := 4, ground := Go.Ground.phase }, { on := 5, ground := Go.Ground.textOnly Go.Departure.lateStores }, { on := 6, ground := Go.Ground.textOnly Go.Departure.lateStores }, { on := 7, ground := Go.Ground.textOnly Go.Departure.lateStoresUnsure }], guard := none }) (v := ?_) rfl (by kernel_rfl) (by kernel_rfl) (by kernel_rfl) (fun _ _ _ h => h) (Or.inl ⟨by rfl, ?_⟩) (by assumption) ?_
      rotate_left 1
      · intro w' hSw; (go_simp <;> (with_reducible rfl))
      (try simp only [Act.put, List.setIfInBounds_toArray, List.set_cons_zero, List.set_cons_succ])
      refine wpAnyH_take (i := 9) (oi := { dst := some 5, op := Go.Op.assign (Go.Operand.tmp 18), type := 24, pos := "icmp.go:57", after := #[{ on := 7, ground := Go.Ground.data }, { on := 8, ground := Go.Ground.chain }, { on := 0, ground := Go.Ground.phase }, { on := 1, ground := Go.Ground.phase }, { on := 2, ground := Go.Ground.phase }, { on := 3, ground := Go.Ground.phase }, { on := 4, ground := Go.Ground.phase }, { on := 5, ground := Go.Ground.phase }, { on := 6, ground := Go.Ground.phase }, { on := 7, ground := Go.Ground.phase }, { on := 8, ground := Go.Ground.phase }], guard := none }) (v := ?_) rfl (by kernel_rfl) (by kernel_rfl) (by kernel_rfl) (fun _ _ _ h => h) (Or.inl ⟨by rfl, ?_⟩) (by assumption) ?_
      rotate_left 1
      · intro w' hSw; (go_simp <;> (with_reducible rfl))
      (try simp only [Act.put, List.setIfInBounds_toArray, List.set_cons_zero, List.set_cons_succ])
      refine wpAnyH_done (by kernel_rfl) ?_ _
      refine NoPanic.normal ?_
      go_wp2_with fail
      go_meet
      exact ⟨w6.heap.size, A5, c5, rfl, rfl, Hr4, Hr5, Lib.hid ⟨hk5, hm5⟩, Hd2⟩
  case rest =>
    obtain ⟨g4, A5, c5, rfl, rfl, Hr4, Hr5, Hk5, HB⟩ := hcut
    obtain ⟨⟨c0, c1, c2, c3⟩, Hrd⟩ := HK.out _ HB.out
    have hk5 := Hk5.out.1
    have hm5 := Hk5.out.2
    have Hfd := Lib.hid (field_told (some ⟨wc.heap.size, 0, none⟩) 3 3 [headM ⟨ty, cd, rs, d⟩, be32 rs, d] _ f (by omega) (RdL.threeM wc _ rfl 24 (some ⟨g4, 0, none⟩) A5 A 2 2 4 c5 n c [ty, cd] (be32 rs) d (by simp [maxLen]) ⟨hk5, hm5⟩ Hc.out Hr4.out Hr5.out Hrd) Hfs.out)
    clear Hrd
    go_wp2_with fail
    refine Hfd.out.mono ?_
    rintro e w5 ⟨rfl, hb5⟩
    have hb5 := on_alloc hb5
    have Hr4 := Lib.hid (Hr4.out.below hb5)
    have Hr5 := Lib.hid (Hr5.out.below hb5)
    have HB := Lib.hid (below_trans HB.out hb5)
    clear c0 c1 c2 c3 hb5 Hfd
    go_wp2_with fail
    have Hbd := Lib.hid (Below.drew (Below.refl w5.heap.size w5))
    have HB6 := Lib.hid (below_trans HB.out Hbd.out)
    have Hr4 := Lib.hid (Hr4.out.below Hbd.out)
    have Hr5 := Lib.hid (Hr5.out.below Hbd.out)
    refine wp_region_held_drew (S := fun w' => (w'.cell? ⟨z, 0, none⟩ = some (.int .u8 ty) ∧ w'.cell? ⟨z, 1, none⟩ = some (.int .u8 cd) ∧ w'.cell? ⟨z, 2, none⟩ = some (.int .u32 rs) ∧ w'.cell? ⟨z, 3, none⟩ = some (.slice A n c))) (by kernel_rfl) (HK.out _ HB6.out).1 (fun hHeld => ?_)
    obtain ⟨wd, ewd⟩ : ∃ wd, w5.drew = wd := ⟨_, rfl⟩
    rw [ewd] at HB6 Hr4 Hr5 hHeld ⊢
    clear ewd Hbd HB
    refine wpAnyH_take (i := 0) (oi := { dst := some 25, op := Go.Op.move (Go.Operand.tmp 4), type := 24, pos := "icmp.go:60", after := #[], guard := none }) (v := ?_) rfl (by kernel_rfl) (by kernel_rfl) (by kernel_rfl) (fun _ _ _ h => h) (Or.inl ⟨by rfl, ?_⟩) (by assumption) ?_
    rotate_left 1
    · intro w' hSw; (go_simp <;> (with_reducible rfl))
    (try simp only [Act.put, List.setIfInBounds_toArray, List.set_cons_zero, List.set_cons_succ])
    refine wpAnyH_take (i := 1) (oi := { dst := some 26, op := Go.Op.move (Go.Operand.tmp 6), type := 22, pos := "icmp.go:60", after := #[], guard := none }) (v := ?_) rfl (by kernel_rfl) (by kernel_rfl) (by kernel_rfl) (fun _ _ _ h => h) (Or.inl ⟨by rfl, ?_⟩) (by assumption) ?_
    rotate_left 1
    · intro w' hSw; (go_simp <;> (with_reducible rfl))
    (try simp only [Act.put, List.setIfInBounds_toArray, List.set_cons_zero, List.set_cons_succ])
    refine wpAnyH_take (i := 3) (oi := { dst := some 28, op := Go.Op.move (Go.Operand.tmp 5), type := 24, pos := "icmp.go:60", after := #[], guard := none }) (v := ?_) rfl (by kernel_rfl) (by kernel_rfl) (by kernel_rfl) (fun _ _ _ h => h) (Or.inl ⟨by rfl, ?_⟩) (by assumption) ?_
    rotate_left 1
    · intro w' hSw; (go_simp <;> (with_reducible rfl))
    (try simp only [Act.put, List.setIfInBounds_toArray, List.set_cons_zero, List.set_cons_succ])
    refine wpAnyH_take (i := 4) (oi := { dst := some 29, op := Go.Op.fieldAddr 33 (Go.Operand.tmp 1) 3, type := 0, pos := "icmp.go:60", after := #[], guard := none }) (v := ?_) rfl (by kernel_rfl) (by kernel_rfl) (by kernel_rfl) (fun _ _ _ h => h) (Or.inl ⟨by rfl, ?_⟩) (by assumption) ?_
    rotate_left 1
    · intro w' hSw; (go_simp <;> (with_reducible rfl))
    (try simp only [Act.put, List.setIfInBounds_toArray, List.set_cons_zero, List.set_cons_succ])
    refine wpAnyH_take (i := 5) (oi := { dst := some 30, op := Go.Op.load 24 (Go.Operand.tmp 29), type := 24, pos := "icmp.go:60", after := #[{ on := 4, ground := Go.Ground.data }], guard := none }) (v := ?_) rfl (by kernel_rfl) (by kernel_rfl) (by kernel_rfl) (fun _ _ _ h => h) (Or.inl ⟨by rfl, ?_⟩) (by assumption) ?_
    rotate_left 1
    · intro w' hSw; (go_simp <;> (with_reducible rfl))
    (try simp only [Act.put, List.setIfInBounds_toArray, List.set_cons_zero, List.set_cons_succ])
    refine wpAnyH_ready (rs := [2]) (by kernel_rfl) (by simp) ?_
    refine AllReadyH.cons (o := { dst := some 27, op := Go.Op.call { callee := Go.Callee.value (Go.Operand.func 48), args := #[Go.Operand.const (Go.Value.slice none 0 0), Go.Operand.tmp 26], argTypes := #[24, 22] }, type := 24, pos := "icmp.go:60", after := #[{ on := 1, ground := Go.Ground.data }], guard := none }) rfl (fun K hK => ?_) AllReadyH.nil
    go_simp
    (refine (u16_lays none 0 0 [] f _ Hf.out (by simp [maxLen]) (by omega) (Rd.nil _ _)).mono ?_; rintro e w7 ⟨A7, c7, rfl, hk7, hm7, ho7, hb7⟩; rw [List.nil_append, Nat.zero_add] at ho7; have Hr7 := Lib.hid (ho7.rd (be16_by Hf.out)); have Hb7 := Lib.hid hb7; have HB7 := Lib.hid (below_trans HB6.out hb7); clear ho7 hb7)
    refine hK.out _ _ ?_ (fun hHeld => ?_)
    · exact (HK.out _ HB7.out).1
    clear hK K
    (try simp only [Act.put, List.setIfInBounds_toArray, List.set_cons_zero, List.set_cons_succ])
    refine wpAnyH_ready (rs := [6]) (by kernel_rfl) (by simp) ?_
    refine AllReadyH.cons (o := { dst := some 31, op := Go.Op.buildSlice 107 4 #[(0, Go.Operand.tmp 25), (1, Go.Operand.tmp 27), (2, Go.Operand.tmp 28), (3, Go.Operand.tmp 30)], type := 107, pos := "icmp.go:60", after := #[{ on := 0, ground := Go.Ground.data }, { on := 2, ground := Go.Ground.data }, { on := 3, ground := Go.Ground.data }, { on := 5, ground := Go.Ground.data }], guard := none }) rfl (fun K hK => ?_) AllReadyH.nil
    go_simp
    skip
    refine hK.out _ _ ?_ (fun hHeld => ?_)
    · exact (HK.out _ (HB7.out.alloc HB7.out.size _)).1
    clear hK K
    (try simp only [Act.put, List.setIfInBounds_toArray, List.set_cons_zero, List.set_cons_succ])
    refine wpAnyH_ready (rs := [7]) (by kernel_rfl) (by simp) ?_
    refine AllReadyH.cons (o := { dst := some 32, op := Go.Op.call { callee := Go.Callee.value (Go.Operand.func 47), args := #[Go.Operand.tmp 31], argTypes := #[107] }, type := 24, pos := "icmp.go:60", after := #[{ on := 6, ground := Go.Ground.data }, { on := 2, ground := Go.Ground.chain }], guard := none }) rfl (fun K hK => ?_) AllReadyH.nil
    go_simp
    (refine (concat_any (some ⟨w7.heap.size, 0, none⟩) 4 4 [headM ⟨ty, cd, rs, d⟩, be16 f, be32 rs, d] _ (by omega) (RdL.fourM w7 _ rfl 24 (some ⟨g4, 0, none⟩) A7 A5 A 2 2 2 c7 4 c5 n c [ty, cd] (be16 f) (be32 rs) d (by simp [maxLen]) ⟨hk7, hm7⟩ ⟨hk5, hm5⟩ Hc.out (Hr4.out.below Hb7.out) Hr7.out (Hr5.out.below Hb7.out) (HK.out _ HB7.out).2) (by have := Hln.out; simp [headM, be16, be32]; omega)).mono ?_; intro e w8 h8; rw [flat_msgB ⟨ty, cd, rs, d⟩ f Hef.out, Hlm.out] at h8; obtain ⟨A8, c8, rfl, hk8, hm8, ho8, hb8⟩ := h8; have Ho8 := Lib.hid ho8; have HB8 := Lib.hid (below_trans HB7.out (on_alloc hb8)); clear ho8 hb8)
    refine hK.out _ _ ?_ (fun hHeld => ?_)
    · exact (HK.out _ HB8.out).1
    clear hK K
    (try simp only [Act.put, List.setIfInBounds_toArray, List.set_cons_zero, List.set_cons_succ])
    refine wpAnyH_take (i := 8) (oi := { dst := some 2, op := Go.Op.assign (Go.Operand.tmp 32), type := 24, pos := "icmp.go:60", after := #[{ on := 7, ground := Go.Ground.data }, { on := 7, ground := Go.Ground.chain }, { on := 0, ground := Go.Ground.phase }, { on := 1, ground := Go.Ground.phase }, { on := 2, ground := Go.Ground.phase }, { on := 3, ground := Go.Ground.phase }, { on := 4, ground := Go.Ground.phase }, { on := 5, ground := Go.Ground.phase }, { on := 6, ground := Go.Ground.phase }, { on := 7, ground := Go.Ground.phase }], guard := none }) (v := ?_) rfl (by kernel_rfl) (by kernel_rfl) (by kernel_rfl) (fun _ _ _ h => h) (Or.inl ⟨by rfl, ?_⟩) (by assumption) ?_
    rotate_left 1
    · intro w' hSw; (go_simp <;> (with_reducible rfl))
    (try simp only [Act.put, List.setIfInBounds_toArray, List.set_cons_zero, List.set_cons_succ])
    refine wpAnyH_take (i := 9) (oi := { dst := some 3, op := Go.Op.assign (Go.Operand.const (Go.Value.int Go.IntKind.i64 0)), type := 37, pos := "icmp.go:60", after := #[{ on := 8, ground := Go.Ground.chain }, { on := 0, ground := Go.Ground.phase }, { on := 1, ground := Go.Ground.phase }, { on := 2, ground := Go.Ground.phase }, { on := 3, ground := Go.Ground.phase }, { on := 4, ground := Go.Ground.phase }, { on := 5, ground := Go.Ground.phase }, { on := 6, ground := Go.Ground.phase }, { on := 7, ground := Go.Ground.phase }, { on := 8, ground := Go.Ground.phase }], guard := none }) (v := ?_) rfl (by kernel_rfl) (by kernel_rfl) (by kernel_rfl) (fun _ _ _ h => h) (Or.inl ⟨by rfl, ?_⟩) (by assumption) ?_
    rotate_left 1
    · intro w' hSw; (go_simp <;> (with_reducible rfl))
    (try simp only [Act.put, List.setIfInBounds_toArray, List.set_cons_zero, List.set_cons_succ])
    refine wpAnyH_done (by kernel_rfl) ?_ _
    have Hbb := Lib.hid (below_trans Hb0.out HB8.out)
    have Hs7 := Lib.hid (show w.heap.size ≤ w7.heap.size from Nat.le_trans Hb0.out.size HB7.out.size)
    clear Hr4 Hr5 Hr7 HB6 HB7 hHeld
    go_wp2_with fail
    go_ret2
    exact ⟨A8, c8, rfl, hk8, hm8, Ho8.out.mono (by have := Hs7.out; simp; omega), Hbb.out⟩
theorem put8_any (s : Msg) (A : Option Addr) (n c : Nat) (w : World) (L : List Int) (m : Nat) (x : Int) (hnum : MsgNum s) (hc : n ≤ c ∧ c ≤ maxLen) (hr : Rd w A n s.d) (hx : errP s = x) (hL : toldM s = L) (hm : L.length = m) :
    Calls Tryz.prog 44 #[.agg #[.int .u8 s.ty, .int .u8 s.cd, .int .u32 s.rs, .slice A n c]] w (PutM L m x w) := by
  have hl := hr.len
  unfold errP at hx
  unfold toldM at hL
  rw [hl] at hx hL
  by_cases h : 1472 < n
  · rw [if_pos h] at hx hL
    subst hx; subst hL; subst hm
    exact put8_bad s.ty s.cd s.rs A n c w h
  · rw [if_neg h] at hx hL
    subst hx; subst hL
    rw [← hm, msgB_len, hl]
    exact put8_ok s A n c w hnum hc hr (by omega)
end Go.Proofs.YtkooehejdfaekaaGreat

/-
  The contract of package icmp's Parse, and of the closure in it: what is wrong is told in the document's own order; else the message, its data in a row of the call's own.
-/
namespace Go.Proofs.YtkooehejdfaekaaGreat
set_option maxRecDepth 10000
open Go.RowKit
set_option linter.unusedSimpArgs false
set_option linter.unusedVariables false

end Go.Proofs.YtkooehejdfaekaaGreat

/-
  Package icmp's Parse and the document's own, by one word: the message, or noughts, its data in a row of the call's own.
-/
namespace Go.Proofs.YtkooehejdfaekaaGreat
set_option maxRecDepth 10000
open Go.RowKit

theorem toldM_by {s : Msg} (h : MsgNum s) (hd : ∀ x ∈ s.d, 0 ≤ x ∧ x < 256) : ∀ x ∈ toldM s, 0 ≤ x ∧ x < 256 := by
  unfold toldM
  split
  · simp
  · exact msgB_by h hd
end Go.Proofs.YtkooehejdfaekaaGreat

/-
  A payload's bytes, by each protocol: what package tcp, udp, icmp and the document's own answers (culvertref06, 07, 08) tell, by one word.
-/
namespace Go.Proofs.YtkooehejdfaekaaGreat
set_option maxRecDepth 10000
open Go.RowKit

/-- A row that reads as L, and a number. -/
def PutGot (L : List Int) (m : Nat) (x : Int) (w : World) (e : Ending) (w' : World) : Prop := ∃ A c, e = .returned (.tuple #[.slice A m c, .int .i64 x]) ∧ (m ≤ c ∧ c ≤ maxLen) ∧ Rd w' A m L ∧ Below w.heap.size w w'
theorem PutGot.none_ {x : Int} {w : World} {e : Ending} {w' : World} (he : e = .returned (.tuple #[.slice none 0 0, .int .i64 x])) (hb : Below w.heap.size w w') : PutGot [] 0 x w e w' := ⟨none, 0, he, ⟨Nat.le_refl _, by simp [maxLen]⟩, Rd.nil _ _, hb⟩
theorem PutM.got {L : List Int} {m : Nat} {x : Int} {w : World} {e : Ending} {w' : World} (h : PutM L m x w e w') (hL : ∀ y ∈ L, 0 ≤ y ∧ y < 256) : PutGot L m x w e w' := by
  obtain ⟨A, c, he, h1, h2, ho, hb⟩ := h
  exact ⟨A, c, he, ⟨h1, h2⟩, ho.rd hL, hb⟩
theorem put6_got (src dst : Int) (s : Seg) (AO : Option Addr) (nO cO : Nat) (oss : List OptV) (AD : Option Addr) (nD cD : Nat) (w : World) (L : List Int) (m : Nat) (x : Int) (hn : nO ≤ 140737488355328) (hd : nD ≤ 140737488355328) (h : SegRd w s AO nO cO oss AD nD cD) (hx : errS s = x) (hL : toldB src dst s = L) (hm : L.length = m) :
    Calls Tryz.prog 40 #[.int .u32 src, .int .u32 dst, .agg #[.int .u16 s.sp, .int .u16 s.dp, .int .u32 s.sq, .int .u32 s.ak, .int .u8 s.fl, .int .u16 s.wn, .int .u16 s.ug, .slice AO nO cO, .slice AD nD cD]] w (PutGot L m x w) := by
  refine (put6_any src dst s AO nO cO oss AD nD cD w hn hd h).mono fun e w' hh => ?_
  unfold toldB at hL
  by_cases h0 : errS s = 0
  · rw [if_pos h0] at hh hL
    obtain ⟨A, c, rfl, k, k2, ho, hb⟩ := hh
    subst hx; subst hL; subst hm
    rw [h0, segB_len]
    exact ⟨A, c, rfl, ⟨k, k2⟩, ho.rd (segB_bytes h.num h0 h.os.byte h.d.byte), hb⟩
  · rw [if_neg h0] at hh hL
    obtain ⟨rfl, hb⟩ := hh
    subst hx; subst hL; subst hm
    exact PutGot.none_ rfl hb
theorem rput6_got (src dst : Int) (s : Seg) (AO : Option Addr) (nO cO : Nat) (oss : List OptV) (AD : Option Addr) (nD cD : Nat) (w : World) (L : List Int) (m : Nat) (x : Int) (hn : nO ≤ 2000000) (hd : nD ≤ 140737488355328) (h : SegRd w s AO nO cO oss AD nD cD) (hx : errS s = x) (hL : toldB src dst s = L) (hm : L.length = m) :
    Calls Tryz.prog 20 #[.int .u32 src, .int .u32 dst, .agg #[.int .u16 s.sp, .int .u16 s.dp, .int .u32 s.sq, .int .u32 s.ak, .int .u8 s.fl, .int .u16 s.wn, .int .u16 s.ug, .slice AO nO cO, .slice AD nD cD]] w (PutGot L m x w) := by
  refine (rput6_any src dst s AO nO cO oss AD nD cD w hn hd h).mono fun e w' hh => ?_
  unfold SegPutIs at hh
  unfold toldB at hL
  have hb6 := fun h0 => segB_bytes (src := src) (dst := dst) h.num h0 h.os.byte h.d.byte
  unfold errS at hx hL hb6
  by_cases h1 : s.os.any badB = true
  · rw [if_pos h1] at hh hx hL
    rw [if_neg (by decide)] at hL
    obtain ⟨rfl, hb⟩ := hh
    subst hx; subst hL; subst hm
    exact PutGot.none_ rfl hb
  rw [if_neg h1] at hh hx hL
  by_cases h2 : 40 < (bytesO s.os).length
  · rw [if_pos h2] at hh hx hL
    rw [if_neg (by decide)] at hL
    obtain ⟨rfl, hb⟩ := hh
    subst hx; subst hL; subst hm
    exact PutGot.none_ rfl hb
  rw [if_neg h2] at hh hx hL
  by_cases h3 : 1480 < lenB s
  · rw [if_pos h3] at hh hx hL
    rw [if_neg (by decide)] at hL
    obtain ⟨rfl, hb⟩ := hh
    subst hx; subst hL; subst hm
    exact PutGot.none_ rfl hb
  rw [if_neg h3] at hh hx hL
  rw [if_pos rfl] at hL
  obtain ⟨A, c, rfl, ho, hb⟩ := hh
  subst hx; subst hL; subst hm
  rw [segB_len]
  exact ⟨A, c, rfl, ⟨ho.cap, ho.capMax⟩, ho.rd (hb6 (by rw [if_neg h1, if_neg h2, if_neg h3])), hb⟩

def errUP (s : Dg) : Int := if 1472 < s.d.length then 3 else 0
def toldU (src dst : Int) (s : Dg) : List Int := if 1472 < s.d.length then [] else dgB src dst s
theorem put7_got (src dst : Int) (s : Dg) (A : Option Addr) (n c : Nat) (w : World) (L : List Int) (m : Nat) (x : Int) (hnum : DgNum s) (hc : n ≤ c ∧ c ≤ maxLen) (h : Rd w A n s.d) (hx : errUP s = x) (hL : toldU src dst s = L) (hm : L.length = m) :
    Calls Tryz.prog 42 #[.int .u32 src, .int .u32 dst, .agg #[.int .u16 s.sp, .int .u16 s.dp, .slice A n c]] w (PutGot L m x w) := by
  have hl := h.len
  unfold errUP at hx
  unfold toldU at hL
  rw [hl] at hx hL
  by_cases h0 : 1472 < n
  · rw [if_pos h0] at hx hL
    subst hx; subst hL; subst hm
    exact (uput_bad src dst s.sp s.dp A n c w h0).mono fun e w' ⟨he, hb⟩ => PutGot.none_ he hb
  · rw [if_neg h0] at hx hL
    subst hx; subst hL
    have hbb := dgB_bytes src dst hnum (by omega) h.byte
    have hm8 : 8 + n = m := by rw [← hm, dgB_len, hl]
    refine (uput_ok src dst s A n c w hnum hc h (by omega)).mono fun e w' hh => ?_
    obtain ⟨A1, c1, he, k, k2, ho, hb⟩ := hh
    rw [hm8] at he ho k
    exact ⟨A1, c1, he, ⟨k, k2⟩, ho.rd hbb, hb⟩
theorem rput7_got (src dst : Int) (s : Dg) (A : Option Addr) (n c : Nat) (w : World) (L : List Int) (m : Nat) (x : Int) (hnum : DgNum s) (hn : n ≤ 140737488355328) (h : Rd w A n s.d) (hx : errUP s = x) (hL : toldU src dst s = L) (hm : L.length = m) :
    Calls Tryz.prog 21 #[.int .u32 src, .int .u32 dst, .agg #[.int .u16 s.sp, .int .u16 s.dp, .slice A n c]] w (PutGot L m x w) := by
  have hl := h.len
  unfold errUP at hx
  unfold toldU at hL
  rw [hl] at hx hL
  by_cases h0 : 1472 < n
  · rw [if_pos h0] at hx hL
    subst hx; subst hL; subst hm
    exact (ruput_bad src dst s.sp s.dp A n c w h0 hn).mono fun e w' ⟨he, hb⟩ => PutGot.none_ he hb
  · rw [if_neg h0] at hx hL
    subst hx; subst hL
    have hbb := dgB_bytes src dst hnum (by omega) h.byte
    have hm8 : 8 + n = m := by rw [← hm, dgB_len, hl]
    refine (ruput_ok src dst s A n c w hnum h (by omega)).mono fun e w' hh => ?_
    obtain ⟨A1, c1, he, k, k2, ho, hb⟩ := hh
    rw [hm8] at he ho k
    exact ⟨A1, c1, he, ⟨k, k2⟩, ho.rd hbb, hb⟩
theorem put8_got (s : Msg) (A : Option Addr) (n c : Nat) (w : World) (L : List Int) (m : Nat) (x : Int) (hnum : MsgNum s) (hc : n ≤ c ∧ c ≤ maxLen) (hr : Rd w A n s.d) (hx : errP s = x) (hL : toldM s = L) (hm : L.length = m) :
    Calls Tryz.prog 44 #[.agg #[.int .u8 s.ty, .int .u8 s.cd, .int .u32 s.rs, .slice A n c]] w (PutGot L m x w) :=
  (put8_any s A n c w L m x hnum hc hr hx hL hm).mono fun e w' h => h.got (by rw [← hL]; exact toldM_by hnum hr.byte)
theorem rput8_got (s : Msg) (A : Option Addr) (n c : Nat) (w : World) (L : List Int) (m : Nat) (x : Int) (hnum : MsgNum s) (hr : Rd w A n s.d) (hx : errP s = x) (hL : toldM s = L) (hm : L.length = m) :
    Calls Tryz.prog 22 #[.agg #[.int .u8 s.ty, .int .u8 s.cd, .int .u32 s.rs, .slice A n c]] w (PutGot L m x w) :=
  (rput8_any s A n c w L m x hnum hr hx hL hm).mono fun e w' h => h.got (by rw [← hL]; exact toldM_by hnum hr.byte)
end Go.Proofs.YtkooehejdfaekaaGreat
