/-
  Texts laid together: IcmpPut, IcmpParse, IcmpBoth, Payload.
-/
import Derived.Test.YtoegfgbalcholaaGreatZT01
import Derived.Test.YtoegfgbalcholaaGreatZT24
import Derived.Test.YtoegfgbalcholaaGreatZT04
import Derived.BigRegion
import Derived.Deep.DeepCutAuto
import Derived.Deep.CutRange
import Derived.Deep.RegionHeld3
import Derived.Test.YtoegfgbalcholaaGreatZT06
import Derived.Test.YtoegfgbalcholaaGreatZT03
import Derived.Test.YtoegfgbalcholaaGreatZT23
import Derived.Test.YtoegfgbalcholaaGreatZT08

/-
  The contract of package icmp's Put.
-/
namespace Go.Proofs.YtoegfgbalcholaaGreat
set_option maxRecDepth 10000
open Go.RowKit
set_option linter.unusedSimpArgs false
set_option linter.unusedVariables false

theorem field_skip (s : Msg) : 65535 - sumL [headM s, be32 s.rs, s.d].flatten = fieldM s := by
  have e : ws false (headM s ++ (be16 0 ++ tailM s)) = ws false (headM s ++ tailM s) := by
    rw [ws_even _ _ (by simp [headM]), ws_even _ _ (by simp [be16]), ws_b16, ws_even (headM s) _ (by simp [headM])]; omega
  unfold fieldM sumL
  rw [e]
  simp [tailM]
theorem flat_msgB (s : Msg) (f : Int) (hf : fieldM s = f) : [headM s, be16 f, be32 s.rs, s.d].flatten = msgB s := by
  unfold msgB tailM; rw [hf]; simp
theorem headM_bytes (ty cd : Int) (h : 0 ≤ ty ∧ ty < 256) (h' : 0 ≤ cd ∧ cd < 256) : ∀ x ∈ [ty, cd], 0 ≤ x ∧ x < 256 := by intro x hx; simp at hx; omega
theorem RdL.threeM (w : World) (g : Nat) (hg : w.heap.size = g) (t : TypeId) (A B C : Option Addr) (n c n1 c1 n2 c2 : Nat) (l l1 l2 : List Int)
    (hc : n ≤ c ∧ c ≤ maxLen) (hc1 : n1 ≤ c1 ∧ c1 ≤ maxLen) (hc2 : n2 ≤ c2 ∧ c2 ≤ maxLen) (h : Rd w A n l) (h1 : Rd w B n1 l1) (h2 : Rd w C n2 l2) :
    RdL (w.alloc (.cells #[.slice A n c, .slice B n1 c1, .slice C n2 c2] t)) (some ⟨g, 0, none⟩) 3 [l, l1, l2] := by
  have := h.len; have := h1.len; have := h2.len
  subst n n1 n2
  refine RdL.row w g hg t (0, 0) [.slice A l.length c, .slice B l1.length c1, .slice C l2.length c2] [l, l1, l2] (fun i hi => ?_)
  match i, hi with
  | 0, _ => exact ⟨A, c, rfl, hc.1, hc.2, h⟩
  | 1, _ => exact ⟨B, c1, rfl, hc1.1, hc1.2, h1⟩
  | 2, _ => exact ⟨C, c2, rfl, hc2.1, hc2.2, h2⟩
theorem RdL.fourM (w : World) (g : Nat) (hg : w.heap.size = g) (t : TypeId) (A B C D : Option Addr) (n c n1 c1 n2 c2 n3 c3 : Nat) (l l1 l2 l3 : List Int)
    (hc : n ≤ c ∧ c ≤ maxLen) (hc1 : n1 ≤ c1 ∧ c1 ≤ maxLen) (hc2 : n2 ≤ c2 ∧ c2 ≤ maxLen) (hc3 : n3 ≤ c3 ∧ c3 ≤ maxLen) (h : Rd w A n l) (h1 : Rd w B n1 l1) (h2 : Rd w C n2 l2) (h3 : Rd w D n3 l3) :
    RdL (w.alloc (.cells #[.slice A n c, .slice B n1 c1, .slice C n2 c2, .slice D n3 c3] t)) (some ⟨g, 0, none⟩) 4 [l, l1, l2, l3] := by
  have := h.len; have := h1.len; have := h2.len; have := h3.len
  subst n n1 n2 n3
  refine RdL.row w g hg t (0, 0) [.slice A l.length c, .slice B l1.length c1, .slice C l2.length c2, .slice D l3.length c3] [l, l1, l2, l3] (fun i hi => ?_)
  match i, hi with
  | 0, _ => exact ⟨A, c, rfl, hc.1, hc.2, h⟩
  | 1, _ => exact ⟨B, c1, rfl, hc1.1, hc1.2, h1⟩
  | 2, _ => exact ⟨C, c2, rfl, hc2.1, hc2.2, h2⟩
  | 3, _ => exact ⟨D, c3, rfl, hc3.1, hc3.2, h3⟩

theorem put8_bad (ty cd rs : Int) (A : Option Addr) (n c : Nat) (w : World) (hn : 1472 < n) :
    Calls Tryz.prog 16 #[.agg #[.int .u8 ty, .int .u8 cd, .int .u32 rs, .slice A n c]] w (PutM [] 0 3 w) := by
  have hni : (1472 : Int) < (n : Int) := by omega
  have Hb := Lib.hid ((Below.refl w.heap.size w).alloc (Nat.le_refl _) (.cells #[.int .u8 ty, .int .u8 cd, .int .u32 rs, .slice A n c] 33))
  go_enter Tryz.func16, Tryz.ntmps16
  go_wp2_with fail
  go_ret2
  exact ⟨none, 0, rfl, Nat.le_refl _, by simp [maxLen], OwnB.nil _ _, Hb.out⟩

set_option maxHeartbeats 1000000 in
theorem put8_ok (s : Msg) (A : Option Addr) (n c : Nat) (w : World) (hnum : MsgNum s) (hc : n ≤ c ∧ c ≤ maxLen) (hr : Rd w A n s.d) (hn : n ≤ 1472) :
    Calls Tryz.prog 16 #[.agg #[.int .u8 s.ty, .int .u8 s.cd, .int .u32 s.rs, .slice A n c]] w (PutM (msgB s) (8 + n) 0 w) := by
  have hf := fieldM_bd s
  obtain ⟨f, ef⟩ : ∃ f, fieldM s = f := ⟨_, rfl⟩
  rw [ef] at hf
  have hfs := field_skip s
  rw [ef] at hfs
  have hlm : (msgB s).length = 8 + n := by rw [msgB_len, hr.len]
  have hln := hr.len
  obtain ⟨ty, cd, rs, d⟩ := s
  have ht := hnum.ty
  have hcd := hnum.cd
  have hrs := hnum.rs
  simp only at hr ht hcd hrs hfs hln ⊢
  obtain ⟨z, hz⟩ : ∃ z, w.heap.size = z := ⟨_, rfl⟩
  obtain ⟨w0, ew⟩ : ∃ w0, w.alloc (.cells #[.int .u8 ty, .int .u8 cd, .int .u32 rs, .slice A n c] 33) = w0 := ⟨_, rfl⟩
  have hb0 : Below w.heap.size w w0 := by rw [← ew]; exact (Below.refl _ _).alloc (Nat.le_refl _) _
  have hk : w0.heap[z]? = some (.cells #[.int .u8 ty, .int .u8 cd, .int .u32 rs, .slice A n c] 33 (0, 0)) := by rw [← ew, ← hz]; exact heap_alloc_new w _
  have HK := Lib.hid (show ∀ w', Below w0.heap.size w0 w' → (w'.cell? ⟨z, 0, none⟩ = some (.int .u8 ty) ∧ w'.cell? ⟨z, 1, none⟩ = some (.int .u8 cd) ∧ w'.cell? ⟨z, 2, none⟩ = some (.int .u32 rs) ∧ w'.cell? ⟨z, 3, none⟩ = some (.slice A n c)) ∧ Rd w' A n d from fun w' hb => ⟨cells4 (blk_on hk hb), (hr.below hb0).below hb⟩)
  have Hb0 := Lib.hid hb0
  have Hew := Lib.hid ew
  have Hfs := Lib.hid hfs
  have Hef := Lib.hid ef
  have Hlm := Lib.hid hlm
  have Hln := Lib.hid hln
  have Hf := Lib.hid (show 0 ≤ f ∧ f < 65536 by omega)
  have Hc := Lib.hid hc
  have Hbt := Lib.hid (headM_bytes ty cd ht hcd)
  have hni : ¬ (1472 : Int) < (n : Int) := by omega
  obtain ⟨⟨c0, c1, c2, c3⟩, _⟩ := HK.out w0 (Below.refl _ _)
  clear hk hb0 ew hr hfs ef hlm hnum ht hcd hf hln hc
  go_enter Tryz.func16, Tryz.ntmps16
  go_upto_region 1 with (fail)
  rw [Hew.out]
  go_upto_region 3 with (fail)
  clear c0 c1 c2 c3
  go_cut [4, 5] (fun s4 s5 wx => ∃ (g4 : Nat) (A5 : Option Addr) (c5 : Nat), s4 = .slice (some ⟨g4, 0, none⟩) 2 2 ∧ s5 = .slice A5 4 c5 ∧ Hid (Rd wx (some ⟨g4, 0, none⟩) 2 [ty, cd]) ∧ Hid (Rd wx A5 4 (be32 rs)) ∧ Hid (4 ≤ c5 ∧ c5 ≤ maxLen) ∧ Hid (Below w0.heap.size w0 wx))
  case first =>
    have Hd := Lib.hid (Below.drew (Below.refl w0.heap.size w0))
    refine wp_region_noPanic ?_
    refine wp_region_held_drew (S := fun w' => (w'.cell? ⟨z, 0, none⟩ = some (.int .u8 ty) ∧ w'.cell? ⟨z, 1, none⟩ = some (.int .u8 cd) ∧ w'.cell? ⟨z, 2, none⟩ = some (.int .u32 rs) ∧ w'.cell? ⟨z, 3, none⟩ = some (.slice A n c))) (by kernel_rfl) (HK.out _ Hd.out).1 (fun hHeld => ?_)
    obtain ⟨wd, ewd⟩ : ∃ wd, w0.drew = wd := ⟨_, rfl⟩
    rw [ewd] at Hd hHeld ⊢
    clear ewd
    refine tk 0 ?_ rfl ?_ ?_
    rotate_left
    · intro w' hSw; (go_simp <;> (with_reducible rfl))
    try simp only [Act.put, putL]
    refine tk 1 ?_ rfl ?_ ?_
    rotate_left
    · intro w' hSw; (go_simp <;> (with_reducible rfl))
    try simp only [Act.put, putL]
    refine tk 2 ?_ rfl ?_ ?_
    rotate_left
    · intro w' hSw; (go_simp <;> (with_reducible rfl))
    try simp only [Act.put, putL]
    refine tk 3 ?_ rfl ?_ ?_
    rotate_left
    · intro w' hSw; (go_simp <;> (with_reducible rfl))
    try simp only [Act.put, putL]
    refine tk 5 ?_ rfl ?_ ?_
    rotate_left
    · intro w' hSw; (go_simp <;> (with_reducible rfl))
    try simp only [Act.put, putL]
    refine tk 6 ?_ rfl ?_ ?_
    rotate_left
    · intro w' hSw; (go_simp <;> (with_reducible rfl))
    try simp only [Act.put, putL]
    refine wpAnyH_ready (rs := [4, 7]) (by kernel_rfl) (by simp) ?_
    refine AllReadyH.cons (o := { dst := some 15, op := Go.Op.buildSlice 24 2 #[(0, Go.Operand.tmp 12), (1, Go.Operand.tmp 14)], type := 24, pos := "icmp.go:57", after := #[{ on := 1, ground := Go.Ground.data }, { on := 3, ground := Go.Ground.data }], guard := none }) rfl (fun K hK => ?_) (AllReadyH.cons (o := { dst := some 18, op := Go.Op.call { callee := Go.Callee.value (Go.Operand.func 41), args := #[Go.Operand.const (Go.Value.slice none 0 0), Go.Operand.tmp 17], argTypes := #[24, 23] }, type := 24, pos := "icmp.go:57", after := #[{ on := 6, ground := Go.Ground.data }], guard := none }) rfl (fun K hK => ?_) AllReadyH.nil)
    · have hba := (Below.refl wd.heap.size wd).alloc (Nat.le_refl _) (.cells #[.int .u8 ty, .int .u8 cd] 5)
      have Hd2 := Lib.hid (below_trans Hd.out hba)
      have Hr4 := Lib.hid (Rd.const wd [ty, cd] 5 (0, 0) Hbt.out)
      go_simp
      refine hK.out _ _ ?_ (fun hHeld => ?_)
      · exact (HK.out _ Hd2.out).1
      clear hK K
      (try simp only [Act.put, List.setIfInBounds_toArray, List.set_cons_zero, List.set_cons_succ])
      refine wpAnyH_ready (rs := [7]) (by kernel_rfl) (by simp) ?_
      refine AllReadyH.cons (o := { dst := some 18, op := Go.Op.call { callee := Go.Callee.value (Go.Operand.func 41), args := #[Go.Operand.const (Go.Value.slice none 0 0), Go.Operand.tmp 17], argTypes := #[24, 23] }, type := 24, pos := "icmp.go:57", after := #[{ on := 6, ground := Go.Ground.data }], guard := none }) rfl (fun K hK => ?_) AllReadyH.nil
      (try go_simp)
      refine (u32_lays none 0 0 [] rs _ hrs (by simp [maxLen]) (by omega) (Rd.nil _ _)).mono ?_
      rintro e w6 ⟨A5, c5, rfl, hk5, hm5, ho5, hb5⟩
      rw [List.nil_append, Nat.zero_add] at ho5
      rw [Nat.zero_add] at hk5
      have Ho5 := Lib.hid ho5
      have Hb5 := Lib.hid hb5
      refine hK.out _ _ ?_ (fun hHeld => ?_)
      · exact (HK.out _ (below_trans Hd2.out Hb5.out)).1
      clear hK K ho5 hb5
      (try simp only [Act.put, List.setIfInBounds_toArray, List.set_cons_zero, List.set_cons_succ])
      refine tk 8 ?_ rfl ?_ ?_
      rotate_left
      · intro w' hSw; (go_simp <;> (with_reducible rfl))
      try simp only [Act.put, putL]
      refine tk 9 ?_ rfl ?_ ?_
      rotate_left
      · intro w' hSw; (go_simp <;> (with_reducible rfl))
      try simp only [Act.put, putL]
      refine wpAnyH_done (by kernel_rfl) ?_ _
      refine NoPanic.normal ?_
      go_wp2_with fail
      go_meet
      exact ⟨wd.heap.size, A5, c5, rfl, rfl, Lib.hid (Hr4.out.below Hb5.out), Lib.hid (Ho5.out.rd (be32_by hrs)), Lib.hid ⟨hk5, hm5⟩, Lib.hid (below_trans Hd2.out Hb5.out)⟩
    · 
      (try go_simp)
      refine (u32_lays none 0 0 [] rs _ hrs (by simp [maxLen]) (by omega) (Rd.nil _ _)).mono ?_
      rintro e w6 ⟨A5, c5, rfl, hk5, hm5, ho5, hb5⟩
      rw [List.nil_append, Nat.zero_add] at ho5
      rw [Nat.zero_add] at hk5
      have Ho5 := Lib.hid ho5
      have Hb5 := Lib.hid hb5
      refine hK.out _ _ ?_ (fun hHeld => ?_)
      · exact (HK.out _ (below_trans Hd.out Hb5.out)).1
      clear hK K ho5 hb5
      (try simp only [Act.put, List.setIfInBounds_toArray, List.set_cons_zero, List.set_cons_succ])
      refine wpAnyH_ready (rs := [4]) (by kernel_rfl) (by simp) ?_
      refine AllReadyH.cons (o := { dst := some 15, op := Go.Op.buildSlice 24 2 #[(0, Go.Operand.tmp 12), (1, Go.Operand.tmp 14)], type := 24, pos := "icmp.go:57", after := #[{ on := 1, ground := Go.Ground.data }, { on := 3, ground := Go.Ground.data }], guard := none }) rfl (fun K hK => ?_) AllReadyH.nil
      have hba := (Below.refl w6.heap.size w6).alloc (Nat.le_refl _) (.cells #[.int .u8 ty, .int .u8 cd] 5)
      have Hd2 := Lib.hid (below_trans (below_trans Hd.out Hb5.out) hba)
      have Hr4 := Lib.hid (Rd.const w6 [ty, cd] 5 (0, 0) Hbt.out)
      have Hr5 := Lib.hid ((Ho5.out.rd (be32_by hrs)).below hba)
      go_simp
      refine hK.out _ _ ?_ (fun hHeld => ?_)
      · exact (HK.out _ Hd2.out).1
      clear hK K
      (try simp only [Act.put, List.setIfInBounds_toArray, List.set_cons_zero, List.set_cons_succ])
      refine tk 8 ?_ rfl ?_ ?_
      rotate_left
      · intro w' hSw; (go_simp <;> (with_reducible rfl))
      try simp only [Act.put, putL]
      refine tk 9 ?_ rfl ?_ ?_
      rotate_left
      · intro w' hSw; (go_simp <;> (with_reducible rfl))
      try simp only [Act.put, putL]
      refine wpAnyH_done (by kernel_rfl) ?_ _
      refine NoPanic.normal ?_
      go_wp2_with fail
      go_meet
      exact ⟨w6.heap.size, A5, c5, rfl, rfl, Hr4, Hr5, Lib.hid ⟨hk5, hm5⟩, Hd2⟩
  case rest =>
    obtain ⟨g4, A5, c5, rfl, rfl, Hr4, Hr5, Hk5, HB⟩ := hcut
    obtain ⟨⟨c0, c1, c2, c3⟩, Hrd⟩ := HK.out _ HB.out
    have hk5 := Hk5.out.1
    have hm5 := Hk5.out.2
    have Hfd := Lib.hid (field_told (some ⟨wc.heap.size, 0, none⟩) 3 3 [headM ⟨ty, cd, rs, d⟩, be32 rs, d] _ f (by omega) (RdL.threeM wc _ rfl 24 (some ⟨g4, 0, none⟩) A5 A 2 2 4 c5 n c [ty, cd] (be32 rs) d (by simp [maxLen]) ⟨hk5, hm5⟩ Hc.out Hr4.out Hr5.out Hrd) Hfs.out)
    clear Hrd
    go_wp2_with fail
    refine Hfd.out.mono ?_
    rintro e w5 ⟨rfl, hb5⟩
    have hb5 := on_alloc hb5
    have Hr4 := Lib.hid (Hr4.out.below hb5)
    have Hr5 := Lib.hid (Hr5.out.below hb5)
    have HB := Lib.hid (below_trans HB.out hb5)
    clear c0 c1 c2 c3 hb5 Hfd
    go_wp2_with fail
    have Hbd := Lib.hid (Below.drew (Below.refl w5.heap.size w5))
    have HB6 := Lib.hid (below_trans HB.out Hbd.out)
    have Hr4 := Lib.hid (Hr4.out.below Hbd.out)
    have Hr5 := Lib.hid (Hr5.out.below Hbd.out)
    refine wp_region_held_drew (S := fun w' => (w'.cell? ⟨z, 0, none⟩ = some (.int .u8 ty) ∧ w'.cell? ⟨z, 1, none⟩ = some (.int .u8 cd) ∧ w'.cell? ⟨z, 2, none⟩ = some (.int .u32 rs) ∧ w'.cell? ⟨z, 3, none⟩ = some (.slice A n c))) (by kernel_rfl) (HK.out _ HB6.out).1 (fun hHeld => ?_)
    obtain ⟨wd, ewd⟩ : ∃ wd, w5.drew = wd := ⟨_, rfl⟩
    rw [ewd] at HB6 Hr4 Hr5 hHeld ⊢
    clear ewd Hbd HB
    refine tk 0 ?_ rfl ?_ ?_
    rotate_left
    · intro w' hSw; (go_simp <;> (with_reducible rfl))
    try simp only [Act.put, putL]
    refine tk 1 ?_ rfl ?_ ?_
    rotate_left
    · intro w' hSw; (go_simp <;> (with_reducible rfl))
    try simp only [Act.put, putL]
    refine tk 3 ?_ rfl ?_ ?_
    rotate_left
    · intro w' hSw; (go_simp <;> (with_reducible rfl))
    try simp only [Act.put, putL]
    refine tk 4 ?_ rfl ?_ ?_
    rotate_left
    · intro w' hSw; (go_simp <;> (with_reducible rfl))
    try simp only [Act.put, putL]
    refine tk 5 ?_ rfl ?_ ?_
    rotate_left
    · intro w' hSw; (go_simp <;> (with_reducible rfl))
    try simp only [Act.put, putL]
    refine tkC 2 rfl (fun K hK => ?_)
    go_simp
    (refine (u16_lays none 0 0 [] f _ Hf.out (by simp [maxLen]) (by omega) (Rd.nil _ _)).mono ?_; rintro e w7 ⟨A7, c7, rfl, hk7, hm7, ho7, hb7⟩; rw [List.nil_append, Nat.zero_add] at ho7; have Hr7 := Lib.hid (ho7.rd (be16_by Hf.out)); have Hb7 := Lib.hid hb7; have HB7 := Lib.hid (below_trans HB6.out hb7); clear ho7 hb7)
    refine hK.out _ _ ?_ (fun hHeld => ?_)
    · exact (HK.out _ HB7.out).1
    clear hK K
    try simp only [Act.put, putL]
    refine tkC 6 rfl (fun K hK => ?_)
    go_simp
    skip
    refine hK.out _ _ ?_ (fun hHeld => ?_)
    · exact (HK.out _ (HB7.out.alloc HB7.out.size _)).1
    clear hK K
    try simp only [Act.put, putL]
    refine tkC 7 rfl (fun K hK => ?_)
    go_simp
    (refine (concat_any (some ⟨w7.heap.size, 0, none⟩) 4 4 [headM ⟨ty, cd, rs, d⟩, be16 f, be32 rs, d] _ (by omega) (RdL.fourM w7 _ rfl 24 (some ⟨g4, 0, none⟩) A7 A5 A 2 2 2 c7 4 c5 n c [ty, cd] (be16 f) (be32 rs) d (by simp [maxLen]) ⟨hk7, hm7⟩ ⟨hk5, hm5⟩ Hc.out (Hr4.out.below Hb7.out) Hr7.out (Hr5.out.below Hb7.out) (HK.out _ HB7.out).2) (by have := Hln.out; simp [headM, be16, be32]; omega)).mono ?_; intro e w8 h8; rw [flat_msgB ⟨ty, cd, rs, d⟩ f Hef.out, Hlm.out] at h8; obtain ⟨A8, c8, rfl, hk8, hm8, ho8, hb8⟩ := h8; have Ho8 := Lib.hid ho8; have HB8 := Lib.hid (below_trans HB7.out (on_alloc hb8)); clear ho8 hb8)
    refine hK.out _ _ ?_ (fun hHeld => ?_)
    · exact (HK.out _ HB8.out).1
    clear hK K
    try simp only [Act.put, putL]
    refine tk 8 ?_ rfl ?_ ?_
    rotate_left
    · intro w' hSw; (go_simp <;> (with_reducible rfl))
    try simp only [Act.put, putL]
    refine tk 9 ?_ rfl ?_ ?_
    rotate_left
    · intro w' hSw; (go_simp <;> (with_reducible rfl))
    try simp only [Act.put, putL]
    refine wpAnyH_done (by kernel_rfl) ?_ _
    have Hbb := Lib.hid (below_trans Hb0.out HB8.out)
    have Hs7 := Lib.hid (show w.heap.size ≤ w7.heap.size from Nat.le_trans Hb0.out.size HB7.out.size)
    clear Hr4 Hr5 Hr7 HB6 HB7 hHeld
    go_wp2_with fail
    go_ret2
    exact ⟨A8, c8, rfl, hk8, hm8, Ho8.out.mono (by have := Hs7.out; simp; omega), Hbb.out⟩
theorem put8_any (s : Msg) (A : Option Addr) (n c : Nat) (w : World) (L : List Int) (m : Nat) (x : Int) (hnum : MsgNum s) (hc : n ≤ c ∧ c ≤ maxLen) (hr : Rd w A n s.d) (hx : errP s = x) (hL : toldM s = L) (hm : L.length = m) :
    Calls Tryz.prog 16 #[.agg #[.int .u8 s.ty, .int .u8 s.cd, .int .u32 s.rs, .slice A n c]] w (PutM L m x w) := by
  have hl := hr.len
  unfold errP at hx
  unfold toldM at hL
  rw [hl] at hx hL
  by_cases h : 1472 < n
  · rw [if_pos h] at hx hL
    subst hx; subst hL; subst hm
    exact put8_bad s.ty s.cd s.rs A n c w h
  · rw [if_neg h] at hx hL
    subst hx; subst hL
    rw [← hm, msgB_len, hl]
    exact put8_ok s A n c w hnum hc hr (by omega)
end Go.Proofs.YtoegfgbalcholaaGreat

/-
  The contract of package icmp's Parse, and of the closure in it: what is wrong is told in the document's own order; else the message, its data in a row of the call's own.
-/
namespace Go.Proofs.YtoegfgbalcholaaGreat
set_option maxRecDepth 10000
open Go.RowKit
set_option linter.unusedSimpArgs false
set_option linter.unusedVariables false

def zeroMC : Array Value := #[.int .u8 0, .int .u8 0, .int .u32 0, .slice none 0 0]
/-- What Parse's closure leaves. -/
def MsgR (q : Nat) (b : List Int) (w1 : World) (x : Int) (w' : World) : Prop :=
  x = errM b ∧ ((x ≠ 0 ∧ w'.heap[q]? = some (.cells zeroMC 33 (0, 0))) ∨
    (x = 0 ∧ ∃ AD cD, w'.heap[q]? = some (.cells #[.int .u8 (msgOf b).ty, .int .u8 (msgOf b).cd, .int .u32 (msgOf b).rs, .slice AD (b.length - 8) cD] 33 (0, 0)) ∧ OwnB w' w1.heap.size AD (b.length - 8) cD (b.drop 8)))
theorem set4_but (w : World) (q : Nat) (v0 v1 v2 v3 : Value) : But (fun k => k = q) w ((((w.setCell ⟨q, 0, none⟩ v0).setCell ⟨q, 1, none⟩ v1).setCell ⟨q, 2, none⟩ v2).setCell ⟨q, 3, none⟩ v3) :=
  ((((But.refl (fun k => k = q) w).setCell (p := ⟨q, 0, none⟩) rfl _).setCell (p := ⟨q, 1, none⟩) rfl _).setCell (p := ⟨q, 2, none⟩) rfl _).setCell (p := ⟨q, 3, none⟩) rfl _

theorem parse81_short (B g p3 q n : Nat) (l : List Int) (w : World) (hB : q < B) (hl : n < 8) (hlen : l.length = n)
    (hq : w.heap[q]? = some (.cells zeroMC 33 (0, 0))) (h : Rdr w B g l 0) :
    Calls Tryz.prog 46 #[.pointer (some ⟨g, 0, none⟩), .pointer (some ⟨p3, 0, none⟩), .pointer (some ⟨q, 0, none⟩)] w
      (Did (fun k => k = q) g (MsgR q l w) w) := by
  have hg : B ≤ g := h.choose_spec.choose_spec.choose_spec.2.2.2.1.1
  have Hend := Lib.hid (show ∀ w', Gave w' g 4 → But (fun k => k = g) w w' → Did (fun k => k = q) g (MsgR q l w) w (.panicked (gaveUp g)) w' from fun w' ⟨A', n', c', a', hg1⟩ hb =>
    ⟨4, A', n', c', a', .inr rfl, hg1, hb.mono (fun _ _ hk => .inr hk), by unfold errM; rw [if_neg (by omega), if_pos (by omega)], .inl ⟨by decide, hb.blk hq (by omega)⟩⟩)
  have Hr := Lib.hid h
  have Hl := Lib.hid hl
  have Hlen := Lib.hid hlen
  have Hb := Lib.hid (But.refl (fun k => k = g) w)
  clear h hq hlen hl
  go_enter Tryz.func46, Tryz.ntmps46
  go_wp2_with fail
  rcases l with _ | ⟨b0, l⟩
  · refine (u8_short B g ([]) _ _ (by simp) Hr.out).mono ?_
    rintro e w' ⟨rfl, hg1, hb⟩
    exact ⟨rfl, Hend.out w' hg1 (Hb.out.trans hb)⟩
  refine (u8_told B g b0 l _ _ Hr.out).mono ?_
  rintro e w1 ⟨rfl, hR, hb⟩
  have Hr := Lib.hid hR
  have Hb := Lib.hid (Hb.out.trans hb)
  clear hR hb
  go_wp2_with fail
  rcases l with _ | ⟨b1, l⟩
  · refine (u8_short B g ([]) _ _ (by simp) Hr.out).mono ?_
    rintro e w' ⟨rfl, hg1, hb⟩
    exact ⟨rfl, Hend.out w' hg1 (Hb.out.trans hb)⟩
  refine (u8_told B g b1 l _ _ Hr.out).mono ?_
  rintro e w1 ⟨rfl, hR, hb⟩
  have Hr := Lib.hid hR
  have Hb := Lib.hid (Hb.out.trans hb)
  clear hR hb
  go_wp2_with fail
  rcases l with _ | ⟨b2, l⟩
  · refine (u16_short B g ([]) _ _ (by simp) Hr.out).mono ?_
    rintro e w' ⟨rfl, hg1, hb⟩
    exact ⟨rfl, Hend.out w' hg1 (Hb.out.trans hb)⟩
  rcases l with _ | ⟨b3, l⟩
  · refine (u16_short B g ([b2]) _ _ (by simp) Hr.out).mono ?_
    rintro e w' ⟨rfl, hg1, hb⟩
    exact ⟨rfl, Hend.out w' hg1 (Hb.out.trans hb)⟩
  refine (u16_told B g b2 b3 l _ _ Hr.out).mono ?_
  rintro e w1 ⟨rfl, hR, hb⟩
  have Hr := Lib.hid hR
  have Hb := Lib.hid (Hb.out.trans hb)
  clear hR hb
  go_wp2_with fail
  have h8 := Hlen.out
  have hl8 := Hl.out
  refine (u32_short B g l _ _ (by simp at h8; omega) Hr.out).mono ?_
  rintro e w' ⟨rfl, hg1, hb⟩
  exact ⟨rfl, Hend.out w' hg1 (Hb.out.trans hb)⟩

set_option maxHeartbeats 1000000 in
theorem parse81_ok (B g p3 q n c : Nat) (A : Option Addr) (b0 b1 b2 b3 b4 b5 b6 b7 : Int) (l : List Int) (w : World) (hB : p3 < B ∧ q < B ∧ p3 ≠ q) (hl : n ≤ 1480) (b : List Int) (eb : b = b0 :: b1 :: b2 :: b3 :: b4 :: b5 :: b6 :: b7 :: l) (hlen : b.length = n) (hc : n ≤ c ∧ c ≤ maxLen) (hAB : ∀ x o, A = some ⟨x, o, none⟩ → x < B) (hA : Rd w A n b)
    (hp3 : Box w p3 24 (.slice A n c)) (hq : w.heap[q]? = some (.cells zeroMC 33 (0, 0))) (h : Rdr w B g b 0) :
    Calls Tryz.prog 46 #[.pointer (some ⟨g, 0, none⟩), .pointer (some ⟨p3, 0, none⟩), .pointer (some ⟨q, 0, none⟩)] w
      (Did (fun k => k = q) g (MsgR q b w) w) := by
  have hg : B ≤ g := h.choose_spec.choose_spec.choose_spec.2.2.2.1.1
  have hgw : g < w.heap.size := lt_of_block h.choose_spec.choose_spec.choose_spec.2.2.2.2.2.1
  have hn8 : 8 ≤ n := by rw [← hlen, eb]; simp
  have hbyte := hA.byte
  have Hend := Lib.hid (show ∀ x w', x ≠ 0 → errM b = x → Gave w' g x → But (fun k => k = g) w w' → Did (fun k => k = q) g (MsgR q b w) w (.panicked (gaveUp g)) w' from fun x w' h0 hx ⟨A', n', c', a', hg1⟩ hb =>
    ⟨x, A', n', c', a', .inr rfl, hg1, hb.mono (fun _ _ hk => .inr hk), hx.symm, .inl ⟨h0, hb.blk hq (by omega)⟩⟩)
  have Hof := Lib.hid (show msgOf b = ⟨b0, b1, ((b4 * 256 + b5) * 256 + b6) * 256 + b7, l⟩ by rw [eb]; rfl)
  have Hr := Lib.hid (show Rdr w B g (b0 :: b1 :: b2 :: b3 :: b4 :: b5 :: b6 :: b7 :: l) 0 by rw [← eb]; exact h)
  have Hp3 := Lib.hid hp3
  have Hq := Lib.hid hq
  have HA := Lib.hid hA
  have Hlen := Lib.hid hlen
  have Hll := Lib.hid (show l.length = n - 8 by rw [← hlen, eb]; simp)
  have Heb := Lib.hid (show b.drop 8 = l by rw [eb]; rfl)
  have Hb := Lib.hid (But.refl (fun k => k = g) w)
  clear h hp3 hq hA hlen hbyte eb
  go_enter Tryz.func46, Tryz.ntmps46
  go_wp2_with fail
  refine (u8_told B g b0 (b1 :: b2 :: b3 :: b4 :: b5 :: b6 :: b7 :: l) _ _ Hr.out).mono ?_
  rintro e w1 ⟨rfl, hR, hb⟩
  have Hr := Lib.hid hR
  have Hb := Lib.hid (Hb.out.trans hb)
  clear hR hb
  go_wp2_with fail
  refine (u8_told B g b1 (b2 :: b3 :: b4 :: b5 :: b6 :: b7 :: l) _ _ Hr.out).mono ?_
  rintro e w1 ⟨rfl, hR, hb⟩
  have Hr := Lib.hid hR
  have Hb := Lib.hid (Hb.out.trans hb)
  clear hR hb
  go_wp2_with fail
  refine (u16_told B g b2 b3 (b4 :: b5 :: b6 :: b7 :: l) _ _ Hr.out).mono ?_
  rintro e w1 ⟨rfl, hR, hb⟩
  have Hr := Lib.hid hR
  have Hb := Lib.hid (Hb.out.trans hb)
  clear hR hb
  go_wp2_with fail
  refine (u32_told B g b4 b5 b6 b7 l _ _ Hr.out).mono ?_
  rintro e w1 ⟨rfl, hR, hb⟩
  have Hr := Lib.hid hR
  have Hb := Lib.hid (Hb.out.trans hb)
  clear hR hb
  have hc3 := (Hp3.out.but Hb.out (by omega)).cell
  have hAw := HA.out.but Hb.out (fun x o e _ => by have := hAB x o e; omega)
  obtain ⟨V, eV⟩ : ∃ V, ((b4 * 256 + b5) * 256 + b6) * 256 + b7 = V := ⟨_, rfl⟩
  rw [eV] at Hof
  try rw [eV]
  clear eV
  obtain ⟨y, ey⟩ : ∃ y, sumL b = y := ⟨_, rfl⟩
  have Hrt := Lib.hid (right_told (some ⟨w1.heap.size, 0, none⟩) 1 1 [b] _ (y == 65535) (by omega) (RdL.one w1 _ rfl 24 (0, 0) A n c b hAw hc.1 hc.2) (by simp [ey]))
  have Ey := Lib.hid ey
  clear ey hAw
  go_wp2_with fail
  refine Hrt.out.mono ?_
  rintro e w2 ⟨rfl, hb2⟩
  have hb2 := on_alloc hb2
  have Hr := Lib.hid (Hr.out.below hb2)
  have Hb := Lib.hid (Hb.out.trans (But.of hb2))
  clear hb2 hc3 Hrt
  by_cases h7 : y = 65535
  case neg =>
    have h7b : (y == 65535) = false := by simpa using h7
    have He := Lib.hid (show errM b = 20 by unfold errM; rw [if_neg (by have := Hlen.out; omega), if_neg (by have := Hlen.out; omega), if_neg (by rw [Ey.out]; exact h7)])
    clear h7
    go_wp2_with fail
    refine (fail_any B g 20 _ _ _ (by decide) Hr.out).mono ?_
    rintro e w3 ⟨rfl, hg2, hb3⟩
    exact ⟨rfl, Hend.out 20 _ (by decide) He.out hg2 (Hb.out.trans hb3)⟩
  have h7b : (y == 65535) = true := by simpa using h7
  have Herr := Lib.hid (show errM b = 0 by unfold errM; rw [if_neg (by have := Hlen.out; omega), if_neg (by have := Hlen.out; omega), if_pos (by rw [Ey.out]; exact h7)])
  clear h7
  go_wp2_with fail
  refine (rest_is B g (n - 8) l _ _ Hll.out (by omega) Hr.out).mono ?_
  rintro e w3 ⟨A8, c8, rfl, k8, m8, ho8, hr8, hb8⟩
  have hqb := (Hb.out.trans hb8).blk Hq.out (by omega)
  have hB3 := Hb.out.trans hb8
  unfold zeroMC at hqb
  obtain ⟨q0, q1, q2, q3⟩ := cells4 hqb
  have qf := blk_free hqb
  have hb9 := set4_but w3 q (.int .u8 b0) (.int .u8 b1) (.int .u32 V) (.slice A8 (n - 8) c8)
  have hs9 := set4_blk hqb (.int .u8 b0) (.int .u8 b1) (.int .u32 V) (.slice A8 (n - 8) c8)
  have hfin : Did (fun k => k = q) g (MsgR q b w) w (.returned (.tuple #[])) ((((w3.setCell ⟨q, 0, none⟩ (.int .u8 b0)).setCell ⟨q, 1, none⟩ (.int .u8 b1)).setCell ⟨q, 2, none⟩ (.int .u32 V)).setCell ⟨q, 3, none⟩ (.slice A8 (n - 8) c8)) := by
    have hr9 := hr8.but hb9 (fun k e => by rw [e]; omega)
    obtain ⟨A7, n7, c7, _, _, _, _, _, hg7, _⟩ := hr9
    refine ⟨0, A7, n7, c7, _, .inl ⟨rfl, rfl⟩, hg7, (hB3.mono (fun _ _ h => .inr h)).trans (hb9.mono (fun _ _ h => .inl h)), Herr.out.symm, .inr ⟨rfl, A8, c8, ?_, ?_⟩⟩
    · rw [Hof.out, Hlen.out]
      exact hs9
    · rw [Hlen.out, Heb.out]
      exact (ho8.mono Hb.out.size).but hb9 (fun k hk e => by omega)
  have HF := Lib.hid hfin
  clear hqb hB3 hb9 hs9 hfin ho8 hr8 hb8
  go_wp2_with fail
  go_end0
  exact HF.out
theorem parse81_any (B g p3 q n c : Nat) (A : Option Addr) (w : World) (hB : p3 < B ∧ q < B ∧ p3 ≠ q) (hl : n ≤ 1480) (b : List Int) (hc : n ≤ c ∧ c ≤ maxLen) (hAB : 0 < n → ∀ x o, A = some ⟨x, o, none⟩ → x < B) (hA : Rd w A n b)
    (hp3 : Box w p3 24 (.slice A n c)) (hq : w.heap[q]? = some (.cells zeroMC 33 (0, 0))) (h : Rdr w B g b 0) :
    Calls Tryz.prog 46 #[.pointer (some ⟨g, 0, none⟩), .pointer (some ⟨p3, 0, none⟩), .pointer (some ⟨q, 0, none⟩)] w
      (Did (fun k => k = q) g (MsgR q b w) w) := by
  have hlen := hA.len
  by_cases h2 : n < 8
  · exact parse81_short B g p3 q n b w hB.2.1 h2 hlen hq h
  · obtain ⟨b0, b1, b2, b3, b4, b5, b6, b7, l, eb⟩ := eightM b (by omega)
    exact parse81_ok B g p3 q n c A b0 b1 b2 b3 b4 b5 b6 b7 l w hB hl b eb hlen hc (hAB (by omega)) hA hp3 hq h

theorem parse8_good (A : Option Addr) (n c m : Nat) (b : List Int) (ty cd rs : Int) (d : List Int) (w : World) (hc : n ≤ c ∧ c ≤ maxLen) (hn : n ≤ 1480) (hA : Rd w A n b) (hx : errM b = 0) (hS : msgOf b = ⟨ty, cd, rs, d⟩) (hm : d.length = m) :
    Calls Tryz.prog 18 #[.slice A n c] w (MsgGood ⟨ty, cd, rs, d⟩ m w) := by
  have Hlm := Lib.hid (show b.length - 8 = m by rw [← hm, show d = (msgOf b).d by rw [hS]]; simp [msgOf])
  have Hd := Lib.hid (show b.drop 8 = d by rw [show d = (msgOf b).d by rw [hS]]; rfl)
  have HS := Lib.hid hS
  clear hS hm
  have hmf : ∀ (fn : Fn) (first cap : Array Value) (w : World), (Instr.makeFunc fn first cap).run Tryz.prog w = .ok (.func fn first cap) w := fun _ _ _ _ => rfl
  have hal : Below w.heap.size w w := Below.refl _ _
  have HA := Lib.hid hA
  have Hx := Lib.hid hx
  have hni : ¬ (1480 : Int) < (n : Int) := by omega
  clear hA hx
  obtain ⟨z, hz⟩ : ∃ z, w.heap.size = z := ⟨_, rfl⟩
  go_enter Tryz.func18, Tryz.ntmps18
  go_wp2_with fail
  obtain ⟨w0, hw0⟩ : ∃ w0, w0 = ((w.alloc (.cells #[.slice A n c] 24)).alloc (.cells #[.int .u8 0, .int .u8 0, .int .u32 0, .slice none 0 0] 33)).alloc (.cells #[.int .u8 0, .int .u8 0, .int .u32 0, .slice none 0 0] 33) := ⟨_, rfl⟩
  rw [← hw0]
  have hsz : w0.heap.size = z + 3 := by rw [hw0, ← hz]; simp
  have hb0 : Below w.heap.size w w0 := by rw [hw0]; exact ((hal.alloc (Nat.le_refl _) _).alloc (by simp) _).alloc (by simp <;> omega) _
  have h3 : Box w0 z 24 (.slice A n c) := by rw [hw0, ← hz]; exact ((Box.new w _ _).alloc _).alloc _
  have h4 : w0.heap[z + 1]? = some (.cells zeroMC 33 (0, 0)) := by
    rw [hw0, ← hz]
    have := heap_alloc_new (w.alloc (.cells #[.slice A n c] 24)) (.cells #[.int .u8 0, .int .u8 0, .int .u32 0, .slice none 0 0] 33)
    rw [Below.heap_alloc _ _ _ (by simp)]
    simpa [zeroMC] using this
  have h5 : w0.heap[z + 2]? = some (.cells zeroMC 33 (0, 0)) := by
    rw [hw0, ← hz]
    have := heap_alloc_new ((w.alloc (.cells #[.slice A n c] 24)).alloc (.cells #[.int .u8 0, .int .u8 0, .int .u32 0, .slice none 0 0] 33)) (.cells #[.int .u8 0, .int .u8 0, .int .u32 0, .slice none 0 0] 33)
    simpa [zeroMC] using this
  have hr0 := HA.out.below hb0
  clear hw0
  have hdo := fun w1 g (hb : Below w0.heap.size w0 w1) (_ : w0.heap.size ≤ g) (_ : g < w1.heap.size) (hR : Rdr w1 w0.heap.size g b 0) =>
    parse81_any w0.heap.size g z (z + 2) n c A w1 (by omega) hn b hc (fun h x o e => by
      obtain ⟨x', o', e', hlt, _⟩ := hr0.at_ h
      rw [e] at e'; injection e' with e'; injection e' with e'; subst e'; exact hlt) (hr0.below hb) (h3.below hb (by omega)) ((hb.block _ (by omega)).trans h5) hR
  have hread := read_any (fun k => k = z + 2) _ n c #[.pointer (some ⟨z, 0, none⟩), .pointer (some ⟨z + 2, 0, none⟩)] _ (fun _ => rfl) A b (MsgR (z + 2) b) w0 (fun k hk => by omega) (by omega) hr0 (enter_of Tryz.func46 (by kernel_rfl) rfl) hdo
  have Hb0 := Lib.hid hb0
  have Hc3 := h3.cell
  have H4 := Lib.hid h4
  have Hsz := Lib.hid hsz
  have Hz := Lib.hid hz
  clear hb0 h3 h4 h5 hr0 hdo hal hsz hz
  refine hread.mono ?_
  clear hread
  rintro e w5 ⟨x', w1, w4, rfl, hb1, ⟨hxe, hR⟩, hb4, hb5⟩
  rw [Hx.out] at hxe
  subst hxe
  rcases hR with ⟨h, _⟩ | ⟨_, AD, cD, hq, hd⟩
  · exact absurd rfl h
  have hsz := Hsz.out
  have hz := Hz.out
  have hqb := hb4.blk hq (by omega)
  have hrb := hb5.blk H4.out (by omega)
  have hd5 := hd.but hb4 (fun k hk e => by omega)
  rw [HS.out, Hlm.out] at hqb
  rw [Hlm.out, Hd.out] at hd5
  simp only at hqb
  unfold zeroMC at hrb
  have hB := Hb0.out.trans (hb5.below (B := w.heap.size) (fun k hk => by omega) Hb0.out.size)
  have HB := Lib.hid hB
  obtain ⟨q0, q1, q2, q3⟩ := cells4 hqb
  obtain ⟨r0, r1, r2, r3⟩ := cells4 hrb
  have rf := blk_free hrb
  have HS9 := Lib.hid (set4_blk hrb)
  have Hset := Lib.hid (set4_but w5 (z + 1))
  have HD := Lib.hid hd5
  have hw1 : z + 3 ≤ w1.heap.size := by have := hb1.size; omega
  clear hqb hrb hq hb1 hb4 hb5 hsz hB hd hd5 hz
  go_wp2_with fail
  have hz := Hz.out
  obtain ⟨s0, s1, s2, s3⟩ := cells4 (HS9.out (.int .u8 ty) (.int .u8 cd) (.int .u32 rs) (.slice AD m cD))
  have Hset := Hset.out (.int .u8 ty) (.int .u8 cd) (.int .u32 rs) (.slice AD m cD)
  refine bodyPost_ret (v := .tuple #[.agg #[.int .u8 ty, .int .u8 cd, .int .u32 rs, .slice AD m cD], .int .i64 0]) (by simp [results, Tryz.results18, go_sem, s0, s1, s2, s3]) rfl ⟨AD, cD, rfl, HD.out.cap, HD.out.capMax, ?_, ?_⟩
  · exact (HD.out.but Hset (fun k hk e => by omega)).mono (by omega)
  · exact ((((HB.out.setCell (by simp <;> omega) _).setCell (by simp <;> omega) _).setCell (by simp <;> omega) _).setCell (by simp <;> omega) _)

theorem parse8_told (A : Option Addr) (n c m : Nat) (b : List Int) (ty cd rs : Int) (d : List Int) (w : World) (hc : n ≤ c ∧ c ≤ maxLen) (hA : Rd w A n b) (hx : errM b = 0) (hS : msgOf b = ⟨ty, cd, rs, d⟩) (hm : d.length = m) :
    Calls Tryz.prog 18 #[.slice A n c] w (MsgGood ⟨ty, cd, rs, d⟩ m w) :=
  parse8_good A n c m b ty cd rs d w hc (by have := errM_zero hx; have := hA.len; omega) hA hx hS hm
end Go.Proofs.YtoegfgbalcholaaGreat

/-
  Package icmp's Parse and the document's own, by one word: the message, or noughts, its data in a row of the call's own.
-/
namespace Go.Proofs.YtoegfgbalcholaaGreat
set_option maxRecDepth 10000
open Go.RowKit

theorem toldM_by {s : Msg} (h : MsgNum s) (hd : ∀ x ∈ s.d, 0 ≤ x ∧ x < 256) : ∀ x ∈ toldM s, 0 ≤ x ∧ x < 256 := by
  unfold toldM
  split
  · simp
  · exact msgB_by h hd
end Go.Proofs.YtoegfgbalcholaaGreat

/-
  A payload's bytes, by each protocol: what package tcp, udp, icmp and the document's own answers (culvertref06, 07, 08) tell, by one word.
-/
namespace Go.Proofs.YtoegfgbalcholaaGreat
set_option maxRecDepth 10000
open Go.RowKit

/-- A row that reads as L, and a number. -/
def PutGot (L : List Int) (m : Nat) (x : Int) (w : World) (e : Ending) (w' : World) : Prop := ∃ A c, e = .returned (.tuple #[.slice A m c, .int .i64 x]) ∧ (m ≤ c ∧ c ≤ maxLen) ∧ Rd w' A m L ∧ Below w.heap.size w w'
theorem PutGot.none_ {x : Int} {w : World} {e : Ending} {w' : World} (he : e = .returned (.tuple #[.slice none 0 0, .int .i64 x])) (hb : Below w.heap.size w w') : PutGot [] 0 x w e w' := ⟨none, 0, he, ⟨Nat.le_refl _, by simp [maxLen]⟩, Rd.nil _ _, hb⟩
theorem PutM.got {L : List Int} {m : Nat} {x : Int} {w : World} {e : Ending} {w' : World} (h : PutM L m x w e w') (hL : ∀ y ∈ L, 0 ≤ y ∧ y < 256) : PutGot L m x w e w' := by
  obtain ⟨A, c, he, h1, h2, ho, hb⟩ := h
  exact ⟨A, c, he, ⟨h1, h2⟩, ho.rd hL, hb⟩
theorem put6_got (src dst : Int) (s : Seg) (AO : Option Addr) (nO cO : Nat) (oss : List OptV) (AD : Option Addr) (nD cD : Nat) (w : World) (L : List Int) (m : Nat) (x : Int) (hn : nO ≤ 140737488355328) (hd : nD ≤ 140737488355328) (h : SegRd w s AO nO cO oss AD nD cD) (hx : errS s = x) (hL : toldB src dst s = L) (hm : L.length = m) :
    Calls Tryz.prog 57 #[.int .u32 src, .int .u32 dst, .agg #[.int .u16 s.sp, .int .u16 s.dp, .int .u32 s.sq, .int .u32 s.ak, .int .u8 s.fl, .int .u16 s.wn, .int .u16 s.ug, .slice AO nO cO, .slice AD nD cD]] w (PutGot L m x w) := by
  refine (put6_any src dst s AO nO cO oss AD nD cD w hn hd h).mono fun e w' hh => ?_
  unfold toldB at hL
  by_cases h0 : errS s = 0
  · rw [if_pos h0] at hh hL
    obtain ⟨A, c, rfl, k, k2, ho, hb⟩ := hh
    subst hx; subst hL; subst hm
    rw [h0, segB_len]
    exact ⟨A, c, rfl, ⟨k, k2⟩, ho.rd (segB_bytes h.num h0 h.os.byte h.d.byte), hb⟩
  · rw [if_neg h0] at hh hL
    obtain ⟨rfl, hb⟩ := hh
    subst hx; subst hL; subst hm
    exact PutGot.none_ rfl hb
def errUP (s : Dg) : Int := if 1472 < s.d.length then 3 else 0
def toldU (src dst : Int) (s : Dg) : List Int := if 1472 < s.d.length then [] else dgB src dst s
theorem put7_got (src dst : Int) (s : Dg) (A : Option Addr) (n c : Nat) (w : World) (L : List Int) (m : Nat) (x : Int) (hnum : DgNum s) (hc : n ≤ c ∧ c ≤ maxLen) (h : Rd w A n s.d) (hx : errUP s = x) (hL : toldU src dst s = L) (hm : L.length = m) :
    Calls Tryz.prog 59 #[.int .u32 src, .int .u32 dst, .agg #[.int .u16 s.sp, .int .u16 s.dp, .slice A n c]] w (PutGot L m x w) := by
  have hl := h.len
  unfold errUP at hx
  unfold toldU at hL
  rw [hl] at hx hL
  by_cases h0 : 1472 < n
  · rw [if_pos h0] at hx hL
    subst hx; subst hL; subst hm
    exact (uput_bad src dst s.sp s.dp A n c w h0).mono fun e w' ⟨he, hb⟩ => PutGot.none_ he hb
  · rw [if_neg h0] at hx hL
    subst hx; subst hL
    have hbb := dgB_bytes src dst hnum (by omega) h.byte
    have hm8 : 8 + n = m := by rw [← hm, dgB_len, hl]
    refine (uput_ok src dst s A n c w hnum hc h (by omega)).mono fun e w' hh => ?_
    obtain ⟨A1, c1, he, k, k2, ho, hb⟩ := hh
    rw [hm8] at he ho k
    exact ⟨A1, c1, he, ⟨k, k2⟩, ho.rd hbb, hb⟩
theorem put8_got (s : Msg) (A : Option Addr) (n c : Nat) (w : World) (L : List Int) (m : Nat) (x : Int) (hnum : MsgNum s) (hc : n ≤ c ∧ c ≤ maxLen) (hr : Rd w A n s.d) (hx : errP s = x) (hL : toldM s = L) (hm : L.length = m) :
    Calls Tryz.prog 16 #[.agg #[.int .u8 s.ty, .int .u8 s.cd, .int .u32 s.rs, .slice A n c]] w (PutGot L m x w) :=
  (put8_any s A n c w L m x hnum hc hr hx hL hm).mono fun e w' h => h.got (by rw [← hL]; exact toldM_by hnum hr.byte)
end Go.Proofs.YtoegfgbalcholaaGreat
