/-
  Texts laid together: InChg, InMake.
-/
import Derived.Test.YtoegfgbalcholaaGreatZT01
import Derived.Test.YtoegfgbalcholaaGreatZT36
import Derived.Test.YtoegfgbalcholaaGreatZT12
import Derived.Test.YtoegfgbalcholaaGreatZT20
import Derived.Test.YtoegfgbalcholaaGreatZT06
import Derived.Deep.RegionHeld3
import Derived.Deep.DeepCutAuto
import Derived.BigRegion

/-
  Package inner's closure that changes a word and lets the fields follow: changing, its function literal, changeLong.
-/
namespace Go.Proofs.YtoegfgbalcholaaGreat
set_option maxRecDepth 10000
open Go.RowKit
set_option linter.unusedSimpArgs false
set_option linter.unusedVariables false

/-- The closure's own boxes. -/
structure ChgI (w : World) (g n c : Nat) (pr : Int) (H : Nat) (th : Bool) (pb pa pt pp po : Nat) : Prop where
  hb : w.heap[pb]? = some (.cells #[.slice (some ⟨g, 0, none⟩) n c] 24 (0, 0))
  ha : w.heap[pa]? = some (.cells #[.int .i64 (2 * (H : Int))] 3 (0, 0))
  ht : w.heap[pt]? = some (.cells #[.bool th] 4 (0, 0))
  hp : w.heap[pp]? = some (.cells #[.int .u8 pr] 5 (0, 0))
  ho : w.heap[po]? = some (.cells #[.int .i64 (2 * (qF pr H : Int))] 3 (0, 0))
  nb : pb ≠ g
  na : pa ≠ g
  nt : pt ≠ g
  np : pp ≠ g
  no : po ≠ g
theorem ChgI.but {w w' : World} {g n c : Nat} {pr : Int} {H : Nat} {th : Bool} {pb pa pt pp po : Nat} (h : ChgI w g n c pr H th pb pa pt pp po) (hb : But (fun k => k = g) w w') : ChgI w' g n c pr H th pb pa pt pp po :=
  ⟨hb.blk h.hb h.nb, hb.blk h.ha h.na, hb.blk h.ht h.nt, hb.blk h.hp h.np, hb.blk h.ho h.no, h.nb, h.na, h.nt, h.np, h.no⟩
/-- What its boxes hold. -/
def BoxI (w : World) (g n c : Nat) (pr : Int) (H : Nat) (th : Bool) (pb pa pt pp po : Nat) : Prop := w.cell? ⟨pb, 0, none⟩ = some (.slice (some ⟨g, 0, none⟩) n c) ∧ w.cell? ⟨pa, 0, none⟩ = some (.int .i64 (2 * (H : Int))) ∧ w.cell? ⟨pt, 0, none⟩ = some (.bool th) ∧ w.cell? ⟨pp, 0, none⟩ = some (.int .u8 pr) ∧ w.cell? ⟨po, 0, none⟩ = some (.int .i64 (2 * (qF pr H : Int)))
theorem ChgI.box {w : World} {g n c : Nat} {pr : Int} {H : Nat} {th : Bool} {pb pa pt pp po : Nat} (h : ChgI w g n c pr H th pb pa pt pp po) : BoxI w g n c pr H th pb pa pt pp po :=
  ⟨blk_cell h.hb 0, blk_cell h.ha 0, blk_cell h.ht 0, blk_cell h.hp 0, blk_cell h.ho 0⟩
set_option maxHeartbeats 2000000 in
theorem chgi_any (B g n c pb pa pt pp po H : Nat) (pr : Int) (th : Bool) (l L : List Int) (a x : Int) (k : Nat) (w : World) (h : ChgI w g n c pr H th pb pa pt pp po) (ho : OwnB w B (some ⟨g, 0, none⟩) n c l) (hl : Bytes l) (hn : n ≤ 140737488355328) (ha : a = 2 * (k : Int)) (hk : 2 * k + 1 < n) (hx : U16 x)
    (hF : th = true → 2 * qF pr H + 1 < n) (h5 : 2 * 5 + 1 < n) (hH : H ≤ 1000) (hL : ownS pr H th l k x = L) :
    Calls Tryz.prog 87 #[.int .i64 a, .int .u16 x, .pointer (some ⟨pb, 0, none⟩), .pointer (some ⟨pa, 0, none⟩), .pointer (some ⟨pt, 0, none⟩), .pointer (some ⟨pp, 0, none⟩), .pointer (some ⟨po, 0, none⟩)] w (ILayIs B g n c L w) := by
  obtain ⟨was, hwas⟩ : ∃ v, wordL l k = v := ⟨_, rfl⟩
  have hwb : U16 was := by rw [← hwas]; exact wordL_bd hl k
  obtain ⟨l1, el1⟩ : ∃ y, layL l k x = y := ⟨_, rfl⟩
  have hl1 : Bytes l1 := by rw [← el1]; exact layL_byte hl k hx
  have hx0 := hx
  obtain ⟨hx1, hx2⟩ := hx0
  have Hwas := Lib.hid hwas
  have Hwb := Lib.hid hwb
  have Hx := Lib.hid hx
  have Hl := Lib.hid hl
  have Hk := Lib.hid hk
  have Hn := Lib.hid (And.intro hF h5)
  have Ha := Lib.hid ha
  have HC := Lib.hid h
  have HO := Lib.hid ho
  have HL := Lib.hid hL
  have El1 := Lib.hid el1
  have HB1 := Lib.hid hl1
  have hnN := hn
  obtain ⟨q0, q1, q2, q3, q4⟩ := h.box
  have HHm := Lib.hid hH
  clear hwas hwb hx hl hk hF h5 ha h ho hL el1 hl1 hH
  go_enter Tryz.func87, Tryz.ntmps87
  go_wp2_with fail
  refine (iword_any (some ⟨g, 0, none⟩) n c l a was k _ hnN Ha.out Hk.out (HO.out.rd Hl.out) Hwas.out).mono ?_
  rintro e w1 ⟨rfl, hb1⟩
  have HC := Lib.hid (HC.out.but (But.of hb1))
  have HO := Lib.hid (HO.out.on hb1)
  have HBt := Lib.hid (But.of (S := fun k => k = g) hb1)
  clear q0 q1 q2 q3 q4 hb1
  obtain ⟨q0, q1, q2, q3, q4⟩ := HC.out.box
  go_wp2_with fail
  refine (ilay_any B g n c l a x k _ hnN Ha.out Hk.out Hx.out HO.out l1 El1.out).mono ?_
  rintro e wb ⟨rfl, ho2, hb2⟩
  have HC := Lib.hid (HC.out.but hb2)
  have HO := Lib.hid ho2
  have HBt := Lib.hid (HBt.out.trans hb2)
  clear q0 q1 q2 q3 q4 hb2 ho2
  obtain ⟨q0, q1, q2, q3, q4⟩ := HC.out.box
  obtain ⟨M, eM⟩ : ∃ y, headW H l k x = y := ⟨_, rfl⟩
  have HM := Lib.hid eM
  have HBM := Lib.hid (show Bytes M by rw [← eM]; exact headW_byte Hl.out k Hx.out)
  clear eM
  by_cases hkH : k < H
  · have d0 : decide (a < 2 * (H : Int)) = true := by have := Ha.out; simp; omega
    have d1 : decide (2 * (H : Int) ≤ a) = false := by have := Ha.out; simp; omega
    have d2 : a < 2 * (H : Int) := by have := Ha.out; omega
    have d3 : ¬ 2 * (H : Int) ≤ a := by omega
    have HkH := Lib.hid hkH
    clear hkH
    obtain ⟨v5, e5⟩ : ∃ y, wordL l1 5 = y := ⟨_, rfl⟩
    obtain ⟨f5, ef5⟩ : ∃ y, wordF v5 was x = y := ⟨_, rfl⟩
    obtain ⟨M1, eM1⟩ : ∃ y, layL l1 5 f5 = y := ⟨_, rfl⟩
    have HMM := Lib.hid (show M1 = M by rw [← HM.out]; unfold headW; rw [if_pos HkH.out, El1.out, e5, Hwas.out, ef5, eM1])
    have E5 := Lib.hid e5
    have Ef5 := Lib.hid ef5
    have EM1 := Lib.hid eM1
    have HU5 := Lib.hid (show U16 v5 ∧ U16 was ∧ U16 x from ⟨by rw [← e5]; exact wordL_bd HB1.out 5, Hwb.out, Hx.out⟩)
    have HU5f := Lib.hid (show U16 f5 by rw [← ef5]; exact wordF_bd _ _ _ HU5.out.1 HU5.out.2.1 HU5.out.2.2)
    clear e5 ef5 eM1
    clear q0 q1 q2 q3 q4
    obtain ⟨-, q1, -, -, -⟩ := HC.out.box
    go_upto_region 3 with (fail)
    clear q1
    have HSf0 := Lib.hid (show ∀ w', But (fun k => k = g) wb w' → w'.cell? ⟨pb, 0, none⟩ = some (.slice (some ⟨g, 0, none⟩) n c) from fun w' hb => (HC.out.but hb).box.1)
    refine wp_region_held_drew (S := fun w' => w'.cell? ⟨pb, 0, none⟩ = some (.slice (some ⟨g, 0, none⟩) n c)) (by kernel_rfl) (HSf0.out _ (But.refl _ _).drew) (fun hHeld => ?_)
    obtain ⟨wd, ewd⟩ : ∃ wd, wb.drew = wd := ⟨_, rfl⟩
    have HBtd := Lib.hid (show But (fun k => k = g) wb wd by rw [← ewd]; exact (But.refl _ _).drew)
    have HO := Lib.hid (show OwnB wd B (some ⟨g, 0, none⟩) n c l1 by rw [← ewd]; exact HO.out)
    have HSf := Lib.hid (fun w' (hb : But (fun k => k = g) wd w') => HSf0.out w' (HBtd.out.trans hb))
    rw [ewd] at hHeld ⊢
    clear ewd HSf0
    refine tk 0 ?_ rfl ?_ ?_
    rotate_left
    · intro w' hSw; (go_simp <;> (with_reducible rfl))
    try simp only [Act.put, putL]
    refine tk 1 ?_ rfl ?_ ?_
    rotate_left
    · intro w' hSw; (go_simp <;> (with_reducible rfl))
    try simp only [Act.put, putL]
    refine tk 3 ?_ rfl ?_ ?_
    rotate_left
    · intro w' hSw; (go_simp <;> (with_reducible rfl))
    try simp only [Act.put, putL]
    refine tk 4 ?_ rfl ?_ ?_
    rotate_left
    · intro w' hSw; (go_simp <;> (with_reducible rfl))
    try simp only [Act.put, putL]
    refine tkC 2 rfl (fun K hK => ?_)
    go_simp
    (refine (iword_any (some ⟨g, 0, none⟩) n c l1 10 v5 5 _ hnN rfl Hn.out.2 (HO.out.rd HB1.out) E5.out).mono ?_; rintro e w7 ⟨rfl, hb7⟩; have HO7 := Lib.hid (HO.out.on hb7); have BT7 := Lib.hid (But.of (S := fun k => k = g) hb7); clear hb7)
    refine hK.out _ _ ?_ (fun hHeld => ?_)
    · exact HSf.out _ BT7.out
    clear hK K
    try simp only [Act.put, putL]
    refine tkC 5 rfl (fun K hK => ?_)
    go_simp
    (refine (word_told v5 was x f5 _ HU5.out.1 HU5.out.2.1 HU5.out.2.2 Ef5.out).mono ?_; rintro e w8 ⟨rfl, rfl⟩)
    refine hK.out _ _ ?_ (fun hHeld => ?_)
    · exact HSf.out _ BT7.out
    clear hK K
    try simp only [Act.put, putL]
    refine tkC 6 rfl (fun K hK => ?_)
    go_simp
    (refine (ilay_any B g n c l1 10 f5 5 _ hnN rfl Hn.out.2 HU5f.out HO7.out M1 EM1.out).mono ?_; rintro e w9 ⟨rfl, ho9, hb9⟩; have HO9 := Lib.hid ho9; have BT9 := Lib.hid (BT7.out.trans hb9); clear ho9 hb9)
    refine hK.out _ _ ?_ (fun hHeld => ?_)
    · exact HSf.out _ BT9.out
    clear hK K
    try simp only [Act.put, putL]
    refine wpAnyH_done (by kernel_rfl) ?_ _
    clear hHeld
    have HC := Lib.hid (HC.out.but (HBtd.out.trans BT9.out))
    have HBt := Lib.hid (HBt.out.trans (HBtd.out.trans BT9.out))
    have HO := Lib.hid (show OwnB w9 B (some ⟨g, 0, none⟩) n c M by rw [← HMM.out]; exact HO9.out)
    clear HO9 BT9 HO7 BT7 HBtd HSf
    obtain ⟨q0, q1, q2, q3, q4⟩ := HC.out.box
    have HBt0 := HBt
    have HC0 := HC
    have HBt := Lib.hid (But.refl (fun k => k = g) w9)
    cases th with
    | false =>
      have HLe := Lib.hid (show M = L by rw [← HL.out]; unfold ownS; rw [if_neg (fun h => by cases h.1), HM.out])
      have HBt := HBt0
      go_wp2_with fail
      go_end0
      exact ⟨rfl, by rw [← HLe.out]; exact HO.out, HBt.out⟩
    | true =>
      by_cases hp1 : pr = 1
      · have p1 : (pr != 1) = false := by simpa using hp1
        have HLe := Lib.hid (show M = L by rw [← HL.out]; unfold ownS; rw [if_neg (fun h => by rcases h.2 with h | h; (have := HkH.out; omega); exact h hp1), HM.out])
        have HBt := HBt0
        clear hp1
        go_wp2_with fail
        go_end0
        exact ⟨rfl, by rw [← HLe.out]; exact HO.out, HBt.out⟩
      · have p1 : (pr != 1) = true := by simpa using hp1
        have Hp1 := Lib.hid hp1
        clear hp1
        obtain ⟨vF, eF⟩ : ∃ y, wordL M (qF pr H) = y := ⟨_, rfl⟩
        obtain ⟨fF, efF⟩ : ∃ y, fixP pr vF was x = y := ⟨_, rfl⟩
        have EF := Lib.hid eF
        have EfF := Lib.hid efF
        have HUF := Lib.hid (show U16 vF ∧ U16 was ∧ U16 x from ⟨by rw [← eF]; exact wordL_bd HBM.out _, Hwb.out, Hx.out⟩)
        have HUf := Lib.hid (show U16 fF by rw [← efF]; exact fixP_bd pr HUF.out.1 HUF.out.2.1 HUF.out.2.2)
        have EML := Lib.hid (show layL M (qF pr H) fF = L by
          rw [← HL.out]; unfold ownS; rw [if_pos ⟨rfl, .inr Hp1.out⟩, HM.out, eF, Hwas.out, efF])
        have HFn := Lib.hid (Hn.out.1 rfl)
        clear eF efF
        go_upto_region 5 with (fail)
        clear q0 q1 q2 q3 q4
        have HSf0 := Lib.hid (show ∀ w', But (fun k => k = g) w9 w' → BoxI w' g n c pr H true pb pa pt pp po from fun w' hb => (HC0.out.but hb).box)
        refine wp_region_held_drew (S := fun w' => w'.cell? ⟨pb, 0, none⟩ = some (.slice (some ⟨g, 0, none⟩) n c) ∧ w'.cell? ⟨pa, 0, none⟩ = some (.int .i64 (2 * (H : Int))) ∧ w'.cell? ⟨pt, 0, none⟩ = some (.bool true) ∧ w'.cell? ⟨pp, 0, none⟩ = some (.int .u8 pr) ∧ w'.cell? ⟨po, 0, none⟩ = some (.int .i64 (2 * (qF pr H : Int)))) (by kernel_rfl) (HSf0.out _ (But.refl _ _).drew) (fun hHeld => ?_)
        obtain ⟨wd, ewd⟩ : ∃ wd, w9.drew = wd := ⟨_, rfl⟩
        have HBtd := Lib.hid (show But (fun k => k = g) w9 wd by rw [← ewd]; exact (But.refl _ _).drew)
        have HO := Lib.hid (show OwnB wd B (some ⟨g, 0, none⟩) n c M by rw [← ewd]; exact HO.out)
        have HSf := Lib.hid (fun w' (hb : But (fun k => k = g) wd w') => HSf0.out w' (HBtd.out.trans hb))
        rw [ewd] at hHeld ⊢
        clear ewd HSf0
        refine tk 0 ?_ rfl ?_ ?_
        rotate_left
        · intro w' hSw; (go_simp <;> (with_reducible rfl))
        try simp only [Act.put, putL]
        refine tk 1 ?_ rfl ?_ ?_
        rotate_left
        · intro w' hSw; (go_simp <;> (with_reducible rfl))
        try simp only [Act.put, putL]
        refine tk 2 ?_ rfl ?_ ?_
        rotate_left
        · intro w' hSw; (go_simp <;> (with_reducible rfl))
        try simp only [Act.put, putL]
        refine tk 3 ?_ rfl ?_ ?_
        rotate_left
        · intro w' hSw; (go_simp <;> (with_reducible rfl))
        try simp only [Act.put, putL]
        refine tk 4 ?_ rfl ?_ ?_
        rotate_left
        · intro w' hSw; (go_simp <;> (with_reducible rfl))
        try simp only [Act.put, putL]
        refine tk 6 ?_ rfl ?_ ?_
        rotate_left
        · intro w' hSw; (go_simp <;> (with_reducible rfl))
        try simp only [Act.put, putL]
        refine tk 7 ?_ rfl ?_ ?_
        rotate_left
        · intro w' hSw; (go_simp <;> (with_reducible rfl))
        try simp only [Act.put, putL]
        refine tkC 5 rfl (fun K hK => ?_)
        go_simp
        (refine (iword_any (some ⟨g, 0, none⟩) n c M _ vF (qF pr H) _ hnN rfl HFn.out (HO.out.rd HBM.out) EF.out).mono ?_; rintro e w7 ⟨rfl, hb7⟩; have HO7 := Lib.hid (HO.out.on hb7); have BT7 := Lib.hid (But.of (S := fun k => k = g) hb7); clear hb7)
        refine hK.out _ _ ?_ (fun hHeld => ?_)
        · exact HSf.out _ BT7.out
        clear hK K
        try simp only [Act.put, putL]
        refine tkC 8 rfl (fun K hK => ?_)
        go_simp
        (refine (follow16_any pr vF was x fF _ HUF.out EfF.out).mono ?_; rintro e w8 ⟨rfl, hb8⟩; have HO8 := Lib.hid (HO7.out.on hb8); have BT8 := Lib.hid (BT7.out.trans (But.of hb8)); clear hb8)
        refine hK.out _ _ ?_ (fun hHeld => ?_)
        · exact HSf.out _ BT8.out
        clear hK K
        try simp only [Act.put, putL]
        refine tkC 9 rfl (fun K hK => ?_)
        go_simp
        (refine (ilay_any B g n c M _ fF (qF pr H) _ hnN rfl HFn.out HUf.out HO8.out L EML.out).mono ?_; rintro e w9 ⟨rfl, ho9, hb9⟩; have HO9 := Lib.hid ho9; have BT9 := Lib.hid (BT8.out.trans hb9); clear ho9 hb9)
        refine hK.out _ _ ?_ (fun hHeld => ?_)
        · exact HSf.out _ BT9.out
        clear hK K
        try simp only [Act.put, putL]
        refine wpAnyH_done (by kernel_rfl) ?_ _
        clear hHeld
        have HBt := Lib.hid (HBt0.out.trans (HBtd.out.trans BT9.out))
        go_wp2_with fail
        go_end0
        exact ⟨rfl, HO9.out, HBt.out⟩
  · have d0 : decide (a < 2 * (H : Int)) = false := by have := Ha.out; simp; omega
    have d1 : decide (2 * (H : Int) ≤ a) = true := by have := Ha.out; simp; omega
    have d2 : ¬ a < 2 * (H : Int) := by have := Ha.out; omega
    have d3 : 2 * (H : Int) ≤ a := by have := Ha.out; omega
    have HkH := Lib.hid hkH
    clear hkH
    have HMM := Lib.hid (show l1 = M by rw [← HM.out]; unfold headW; rw [if_neg HkH.out, El1.out])
    have HO := Lib.hid (show OwnB wb B (some ⟨g, 0, none⟩) n c M by rw [← HMM.out]; exact HO.out)
    have HBt0 := HBt
    have HC0 := HC
    have HBt := Lib.hid (But.refl (fun k => k = g) wb)
    cases th with
    | false =>
      have HLe := Lib.hid (show M = L by rw [← HL.out]; unfold ownS; rw [if_neg (fun h => by cases h.1), HM.out])
      have HBt := HBt0
      go_wp2_with fail
      go_end0
      exact ⟨rfl, by rw [← HLe.out]; exact HO.out, HBt.out⟩
    | true =>
      obtain ⟨vF, eF⟩ : ∃ y, wordL M (qF pr H) = y := ⟨_, rfl⟩
      obtain ⟨fF, efF⟩ : ∃ y, fixP pr vF was x = y := ⟨_, rfl⟩
      have EF := Lib.hid eF
      have EfF := Lib.hid efF
      have HUF := Lib.hid (show U16 vF ∧ U16 was ∧ U16 x from ⟨by rw [← eF]; exact wordL_bd HBM.out _, Hwb.out, Hx.out⟩)
      have HUf := Lib.hid (show U16 fF by rw [← efF]; exact fixP_bd pr HUF.out.1 HUF.out.2.1 HUF.out.2.2)
      have EML := Lib.hid (show layL M (qF pr H) fF = L by
        rw [← HL.out]; unfold ownS; rw [if_pos ⟨rfl, .inl (Nat.le_of_not_lt HkH.out)⟩, HM.out, eF, Hwas.out, efF])
      have HFn := Lib.hid (Hn.out.1 rfl)
      clear eF efF
      go_upto_region 5 with (fail)
      clear q0 q1 q2 q3 q4
      have HSf0 := Lib.hid (show ∀ w', But (fun k => k = g) wb w' → BoxI w' g n c pr H true pb pa pt pp po from fun w' hb => (HC0.out.but hb).box)
      refine wp_region_held_drew (S := fun w' => w'.cell? ⟨pb, 0, none⟩ = some (.slice (some ⟨g, 0, none⟩) n c) ∧ w'.cell? ⟨pa, 0, none⟩ = some (.int .i64 (2 * (H : Int))) ∧ w'.cell? ⟨pt, 0, none⟩ = some (.bool true) ∧ w'.cell? ⟨pp, 0, none⟩ = some (.int .u8 pr) ∧ w'.cell? ⟨po, 0, none⟩ = some (.int .i64 (2 * (qF pr H : Int)))) (by kernel_rfl) (HSf0.out _ (But.refl _ _).drew) (fun hHeld => ?_)
      obtain ⟨wd, ewd⟩ : ∃ wd, wb.drew = wd := ⟨_, rfl⟩
      have HBtd := Lib.hid (show But (fun k => k = g) wb wd by rw [← ewd]; exact (But.refl _ _).drew)
      have HO := Lib.hid (show OwnB wd B (some ⟨g, 0, none⟩) n c M by rw [← ewd]; exact HO.out)
      have HSf := Lib.hid (fun w' (hb : But (fun k => k = g) wd w') => HSf0.out w' (HBtd.out.trans hb))
      rw [ewd] at hHeld ⊢
      clear ewd HSf0
      refine tk 0 ?_ rfl ?_ ?_
      rotate_left
      · intro w' hSw; (go_simp <;> (with_reducible rfl))
      try simp only [Act.put, putL]
      refine tk 1 ?_ rfl ?_ ?_
      rotate_left
      · intro w' hSw; (go_simp <;> (with_reducible rfl))
      try simp only [Act.put, putL]
      refine tk 2 ?_ rfl ?_ ?_
      rotate_left
      · intro w' hSw; (go_simp <;> (with_reducible rfl))
      try simp only [Act.put, putL]
      refine tk 3 ?_ rfl ?_ ?_
      rotate_left
      · intro w' hSw; (go_simp <;> (with_reducible rfl))
      try simp only [Act.put, putL]
      refine tk 4 ?_ rfl ?_ ?_
      rotate_left
      · intro w' hSw; (go_simp <;> (with_reducible rfl))
      try simp only [Act.put, putL]
      refine tk 6 ?_ rfl ?_ ?_
      rotate_left
      · intro w' hSw; (go_simp <;> (with_reducible rfl))
      try simp only [Act.put, putL]
      refine tk 7 ?_ rfl ?_ ?_
      rotate_left
      · intro w' hSw; (go_simp <;> (with_reducible rfl))
      try simp only [Act.put, putL]
      refine tkC 5 rfl (fun K hK => ?_)
      go_simp
      (refine (iword_any (some ⟨g, 0, none⟩) n c M _ vF (qF pr H) _ hnN rfl HFn.out (HO.out.rd HBM.out) EF.out).mono ?_; rintro e w7 ⟨rfl, hb7⟩; have HO7 := Lib.hid (HO.out.on hb7); have BT7 := Lib.hid (But.of (S := fun k => k = g) hb7); clear hb7)
      refine hK.out _ _ ?_ (fun hHeld => ?_)
      · exact HSf.out _ BT7.out
      clear hK K
      try simp only [Act.put, putL]
      refine tkC 8 rfl (fun K hK => ?_)
      go_simp
      (refine (follow16_any pr vF was x fF _ HUF.out EfF.out).mono ?_; rintro e w8 ⟨rfl, hb8⟩; have HO8 := Lib.hid (HO7.out.on hb8); have BT8 := Lib.hid (BT7.out.trans (But.of hb8)); clear hb8)
      refine hK.out _ _ ?_ (fun hHeld => ?_)
      · exact HSf.out _ BT8.out
      clear hK K
      try simp only [Act.put, putL]
      refine tkC 9 rfl (fun K hK => ?_)
      go_simp
      (refine (ilay_any B g n c M _ fF (qF pr H) _ hnN rfl HFn.out HUf.out HO8.out L EML.out).mono ?_; rintro e w9 ⟨rfl, ho9, hb9⟩; have HO9 := Lib.hid ho9; have BT9 := Lib.hid (BT8.out.trans hb9); clear ho9 hb9)
      refine hK.out _ _ ?_ (fun hHeld => ?_)
      · exact HSf.out _ BT9.out
      clear hK K
      try simp only [Act.put, putL]
      refine wpAnyH_done (by kernel_rfl) ?_ _
      clear hHeld
      have HBt := Lib.hid (HBt0.out.trans (HBtd.out.trans BT9.out))
      go_wp2_with fail
      go_end0
      exact ⟨rfl, HO9.out, HBt.out⟩
/-- The closure, made: what it may do to a row of the call's own. -/
def chgF (pb pa pt pp po : Nat) : Value := .func (.func 87) #[] #[.pointer (some ⟨pb, 0, none⟩), .pointer (some ⟨pa, 0, none⟩), .pointer (some ⟨pt, 0, none⟩), .pointer (some ⟨pp, 0, none⟩), .pointer (some ⟨po, 0, none⟩)]
/-- A quote's row that may be changed. -/
structure RowQ (pr : Int) (H n : Nat) (th : Bool) (l : List Int) : Prop where
  byte : Bytes l
  len : l.length = n
  max : n ≤ 140737488355328
  hF : th = true → 2 * qF pr H + 1 < n
  h5 : 2 * 5 + 1 < n
  hH : H ≤ 1000
theorem RowQ.step {pr : Int} {H n : Nat} {th : Bool} {l : List Int} (h : RowQ pr H n th l) (k : Nat) {x : Int} (hx : U16 x) : RowQ pr H n th (ownS pr H th l k x) :=
  ⟨ownS_byte h.byte k hx, (ownS_len _ _ _ _ _ _).trans h.len, h.max, h.hF, h.h5, h.hH⟩
theorem chgi_told (B g n c pb pa pt pp po H : Nat) (pr : Int) (th : Bool) (l L : List Int) (a x : Int) (k : Nat) (w : World) (h : ChgI w g n c pr H th pb pa pt pp po) (hr : RowQ pr H n th l) (ho : OwnB w B (some ⟨g, 0, none⟩) n c l) (ha : a = 2 * (k : Int)) (hk : 2 * k + 1 < n) (hx : U16 x) (hL : ownS pr H th l k x = L) :
    Calls Tryz.prog 87 #[.int .i64 a, .int .u16 x, .pointer (some ⟨pb, 0, none⟩), .pointer (some ⟨pa, 0, none⟩), .pointer (some ⟨pt, 0, none⟩), .pointer (some ⟨pp, 0, none⟩), .pointer (some ⟨po, 0, none⟩)] w (ILayIs B g n c L w) :=
  chgi_any B g n c pb pa pt pp po H pr th l L a x k w h ho hr.byte hr.max ha hk hx hr.hF hr.h5 hr.hH hL
set_option maxHeartbeats 1000000 in
theorem changelong16_any (B g n c pb pa pt pp po H : Nat) (pr : Int) (th : Bool) (l L1 L2 : List Int) (a v x y : Int) (k : Nat) (w : World) (h : ChgI w g n c pr H th pb pa pt pp po) (hr : RowQ pr H n th l) (ho : OwnB w B (some ⟨g, 0, none⟩) n c l) (ha : a = 2 * (k : Int)) (hk : 2 * k + 3 < n) (hv : 0 ≤ v ∧ v < 4294967296)
    (hx : v / 65536 = x) (hy : v % 65536 = y) (hL1 : ownS pr H th l k x = L1) (hL2 : ownS pr H th L1 (k + 1) y = L2) :
    Calls Tryz.prog 39 #[chgF pb pa pt pp po, .int .i64 a, .int .u32 v] w (ILayIs B g n c L2 w) := by
  have hxb : U16 x := by rw [← hx]; exact ⟨by omega, by omega⟩
  have hyb : U16 y := by rw [← hy]; exact ⟨by omega, by omega⟩
  have hr1 : RowQ pr H n th L1 := by rw [← hL1]; exact hr.step k hxb
  have hwx : IntKind.u16.wrap (v / 65536) = x := by rw [hx, wrap_u16]; obtain ⟨_, _⟩ := hxb; omega
  have hwy : IntKind.u16.wrap v = y := by rw [wrap_u16]; exact hy
  have hwx2 : IntKind.u16.wrap x = x := by rw [wrap_u16]; obtain ⟨_, _⟩ := hxb; omega
  have ha2 : IntKind.i64.wrap (a + 2) = a + 2 := IntWalk.i64_in _ (by have := hr.max; omega)
  obtain ⟨hv0, hv1⟩ := hv
  have Ha := Lib.hid ha
  have Hk := Lib.hid hk
  have Hr := Lib.hid hr
  have Hr1 := Lib.hid hr1
  have Ho := Lib.hid ho
  have HC := Lib.hid h
  have Hxb := Lib.hid hxb
  have Hyb := Lib.hid hyb
  have HL1 := Lib.hid hL1
  have HL2 := Lib.hid hL2
  clear ha hk hr hr1 ho h hxb hyb hL1 hL2 hy
  unfold chgF
  go_enter Tryz.func39, Tryz.ntmps39
  go_wp2_with fail
  refine (chgi_told B g n c pb pa pt pp po H pr th l L1 a x k _ HC.out Hr.out Ho.out Ha.out (by have := Hk.out; omega) Hxb.out HL1.out).mono ?_
  rintro e w1 ⟨rfl, ho1, hb1⟩
  have HC := Lib.hid (HC.out.but hb1)
  have Ho1 := Lib.hid ho1
  have Hb1 := Lib.hid hb1
  clear ho1 hb1
  go_wp2_with fail
  refine (chgi_told B g n c pb pa pt pp po H pr th L1 L2 (a + 2) y (k + 1) _ HC.out Hr1.out Ho1.out (by have := Ha.out; omega) (by have := Hk.out; omega) Hyb.out HL2.out).mono ?_
  rintro e w2 ⟨rfl, ho2, hb2⟩
  have Ho2 := Lib.hid ho2
  have Hb2 := Lib.hid (Hb1.out.trans hb2)
  clear ho2 hb2
  go_wp2_with fail
  go_end0
  exact ⟨rfl, Ho2.out, Hb2.out⟩
/-- The closure that changing makes. -/
def MadeI (g n c : Nat) (pr : Int) (H : Nat) (th : Bool) (w : World) (e : Ending) (w' : World) : Prop := ∃ pb pa pt pp po, e = .returned (.func (.func 87) #[] #[.pointer (some ⟨pb, 0, none⟩), .pointer (some ⟨pa, 0, none⟩), .pointer (some ⟨pt, 0, none⟩), .pointer (some ⟨pp, 0, none⟩), .pointer (some ⟨po, 0, none⟩)]) ∧ ChgI w' g n c pr H th pb pa pt pp po ∧ Below w.heap.size w w'
end Go.Proofs.YtoegfgbalcholaaGreat

/-
  Package inner's changing: the closure that it makes.
-/
namespace Go.Proofs.YtoegfgbalcholaaGreat
set_option maxRecDepth 10000
open Go.RowKit
set_option linter.unusedSimpArgs false
set_option linter.unusedVariables false

def thL (pr : Int) (F : Nat) (l : List Int) : Bool := decide (2 * F + 2 ≤ l.length ∧ ¬ (pr = 17 ∧ wordL l F = 0))
theorem behQ_is (pr : Int) (H : Nat) (hp : pr = 6 ∨ pr = 17 ∨ pr = 1) : 2 * (H : Int) + behQ pr = 2 * (qF pr H : Int) := by
  rcases hp with rfl | rfl | rfl <;> (unfold behQ qF; simp; try omega)
set_option maxHeartbeats 1000000 in
theorem changing16_any (g n c H : Nat) (pr : Int) (th : Bool) (l : List Int) (w : World) (hg : g < w.heap.size) (hA : Rd w (some ⟨g, 0, none⟩) n l) (hn : n ≤ 140737488355328) (hH : H ≤ 1000) (hp : pr = 6 ∨ pr = 17 ∨ pr = 1) (hth : thL pr (qF pr H) l = th) :
    Calls Tryz.prog 38 #[.slice (some ⟨g, 0, none⟩) n c, .int .u8 pr, .int .i64 (2 * (H : Int))] w (MadeI g n c pr H th w) := by
  have hmf : ∀ (fn : Fn) (first cap : Array Value) (w : World), (Instr.makeFunc fn first cap).run Tryz.prog w = .ok (.func fn first cap) w := fun _ _ _ _ => rfl
  have hlen := hA.len
  obtain ⟨y, ey⟩ : ∃ y, behQ pr = y := ⟨_, rfl⟩
  have hbe := behQ_is pr H hp
  rw [ey] at hbe
  have hqb : qF pr H ≤ H + 8 := by unfold qF; split; omega; split <;> omega
  have hadd : IntKind.i64.wrap (2 * (H : Int) + y) = 2 * (qF pr H : Int) := by rw [hbe]; exact IntWalk.i64_in _ (by omega)
  have hadd2 : IntKind.i64.wrap (2 * (qF pr H : Int) + 2) = 2 * (qF pr H : Int) + 2 := IntWalk.i64_in _ (by omega)
  obtain ⟨z, hz⟩ : ∃ z, w.heap.size = z := ⟨_, rfl⟩
  obtain ⟨w0, ew⟩ : ∃ w0, ((w.alloc (.cells #[.slice (some ⟨g, 0, none⟩) n c] 24)).alloc (.cells #[.int .u8 pr] 5)).alloc (.cells #[.int .i64 (2 * (H : Int))] 3) = w0 := ⟨_, rfl⟩
  have hb0 : Below w.heap.size w w0 := by rw [← ew]; exact (((Below.refl _ _).alloc (Nat.le_refl _) _).alloc (by simp) _).alloc (by simp; omega) _
  have hk0 : w0.heap[z]? = some (.cells #[.slice (some ⟨g, 0, none⟩) n c] 24 (0, 0)) := by rw [← ew, Below.heap_alloc _ _ _ (by simp [hz]; omega), Below.heap_alloc _ _ _ (by simp [hz]), ← hz]; exact heap_alloc_new w _
  have hk1 : w0.heap[z + 1]? = some (.cells #[.int .u8 pr] 5 (0, 0)) := by
    rw [← ew, Below.heap_alloc _ _ _ (by simp [hz]), ← hz]; simpa using heap_alloc_new (w.alloc (.cells #[.slice (some ⟨g, 0, none⟩) n c] 24)) (.cells #[.int .u8 pr] 5)
  have hk2 : w0.heap[z + 1 + 1]? = some (.cells #[.int .i64 (2 * (H : Int))] 3 (0, 0)) := by
    rw [← ew, ← hz]; simpa using heap_alloc_new ((w.alloc (.cells #[.slice (some ⟨g, 0, none⟩) n c] 24)).alloc (.cells #[.int .u8 pr] 5)) (.cells #[.int .i64 (2 * (H : Int))] 3)
  have HZ0 := Lib.hid (And.intro hk0 (And.intro hk1 hk2))
  have HSS := Lib.hid (show ∀ W, Below w0.heap.size w0 W → W.cell? ⟨z + 1 + 1, 0, none⟩ = some (.int .i64 (2 * (H : Int))) ∧ W.cell? ⟨z + 1, 0, none⟩ = some (.int .u8 pr) from fun W hW => ⟨blk_cell (blk_on hk2 hW) 0, blk_cell (blk_on hk1 hW) 0⟩)
  have HB0 := Lib.hid hb0
  have Ew := Lib.hid ew
  have Hz := Lib.hid hz
  have Hg := Lib.hid hg
  have HA := Lib.hid (hA.below hb0)
  have Hn := Lib.hid hn
  have Hp := Lib.hid hp
  have Hth := Lib.hid hth
  have Hy := Lib.hid ey
  have Hlen := Lib.hid hlen
  have hF0 : (qF pr H : Int) ≤ 2000 := by omega
  clear hz ew hb0 hk0 hk1 hk2 hg hA hn hp hth ey hlen hbe hqb hH
  go_enter Tryz.func38, Tryz.ntmps38
  go_upto_region 1 with (fail)
  rw [Ew.out]
  try rw [Hz.out]
  clear Ew
  go_cut [7] (fun v7 wx => ∃ q w5, v7 = .pointer (some ⟨q, 0, none⟩) ∧ wx = w5 ∧ Hid (w5.heap[q]? = some (.cells #[.int .i64 (2 * (qF pr H : Int))] 3 (0, 0))) ∧ Hid (Below w0.heap.size w0 w5) ∧ Hid (w0.heap.size ≤ q))
  case first =>
    refine wp_region_noPanic ?_
    refine wp_region_held_drew (S := fun W => W.cell? ⟨z + 1 + 1, 0, none⟩ = some (.int .i64 (2 * (H : Int))) ∧ W.cell? ⟨z + 1, 0, none⟩ = some (.int .u8 pr)) (by kernel_rfl) (HSS.out _ (Below.refl _ _).drew) (fun hHeld => ?_)
    obtain ⟨wd, ewd⟩ : ∃ wd, w0.drew = wd := ⟨_, rfl⟩
    have HBd := Lib.hid (show Below w0.heap.size w0 wd by rw [← ewd]; exact (Below.refl _ _).drew)
    rw [ewd] at hHeld ⊢
    clear ewd
    refine tk 0 ?_ rfl ?_ ?_
    rotate_left
    · intro w' hSw; (go_simp <;> (with_reducible rfl))
    try simp only [Act.put, putL]
    refine tk 2 ?_ rfl ?_ ?_
    rotate_left
    · intro w' hSw; (go_simp <;> (with_reducible rfl))
    try simp only [Act.put, putL]
    refine wpAnyH_ready (rs := [1, 5]) (by kernel_rfl) (by simp) ?_
    refine AllReadyH.cons (o := { dst := some 10, op := Go.Op.call { callee := Go.Callee.value (Go.Operand.func 85), args := #[], argTypes := #[] }, type := 147, pos := "inner.go:155", after := #[], guard := none }) rfl (fun K hK => ?_) (AllReadyH.cons (o := { dst := some 7, op := Go.Op.alloc 3, type := 0, pos := "inner.go:155", after := #[], guard := none }) rfl (fun K hK => ?_) AllReadyH.nil)
    · skip
      go_simp
      refine (fields16_any _).mono ?_
      rintro e w3 ⟨gm, rfl, hg, hgs, hb⟩
      have HG := Lib.hid hg
      have HBw3 := Lib.hid (below_trans HBd.out hb)
      skip
      clear hg hgs hb
      refine hK.out _ _ ?_ (fun hHeld => ?_)
      · exact HSS.out _ HBw3.out
      clear hK K
      (try simp only [Act.put, putL])
      refine anyH_mono (S' := fun W => (W.cell? ⟨z + 1 + 1, 0, none⟩ = some (.int .i64 (2 * (H : Int))) ∧ W.cell? ⟨z + 1, 0, none⟩ = some (.int .u8 pr)) ∧ W.heap[gm]? = some fieldsO) (fun _ h => h.1) _ _ _ _ ?_
      have hHeld := And.intro (HSS.out _ HBw3.out) HG.out
      have hlook := fun W h => look_fields W gm pr y h Hy.out
      refine tk 3 ?_ rfl ?_ ?_
      rotate_left
      · intro w' hSw; (go_simp <;> (with_reducible rfl))
      try simp only [Act.put, putL]
      refine tk 4 ?_ rfl ?_ ?_
      rotate_left
      · intro w' hSw; (go_simp <;> (with_reducible rfl))
      try simp only [Act.put, putL]
      refine wpAnyH_ready (rs := [5]) (by kernel_rfl) (by simp) ?_
      refine AllReadyH.cons (o := { dst := some 7, op := Go.Op.alloc 3, type := 0, pos := "inner.go:155", after := #[], guard := none }) rfl (fun K hK => ?_) AllReadyH.nil
      obtain ⟨q, eq⟩ : ∃ q, w3.heap.size = q := ⟨_, rfl⟩
      obtain ⟨w4, ew⟩ : ∃ v, World.alloc w3 (.cells #[.int .i64 0] 3) = v := ⟨_, rfl⟩
      have hba : Below w3.heap.size w3 w4 := by rw [← ew]; exact (Below.refl _ _).alloc (Nat.le_refl _) _
      have Hq := Lib.hid (show w4.heap[q]? = some (.cells #[.int .i64 0] 3 (0, 0)) by rw [← ew, ← eq]; exact heap_alloc_new w3 _)
      have HBw4 := Lib.hid (below_trans HBw3.out hba)
      have Hqs := Lib.hid (show w0.heap.size ≤ q by rw [← eq]; exact (HBw3.out).size)
      have Hgq := Lib.hid (show q ≠ gm from fun e => by have := lt_of_block HG.out; omega); have HG := Lib.hid (blk_on HG.out hba)
      go_simp
      try rw [ew]
      try rw [eq]
      refine hK.out _ _ ?_ (fun hHeld => ?_)
      · exact And.intro (HSS.out _ HBw4.out) HG.out
      clear hK K hba ew eq
      (try simp only [Act.put, putL])
      have qc : w4.cell? ⟨q, 0, none⟩ = some (.int .i64 0) := blk_cell Hq.out 0
      have qf : w4.frozen? ⟨q, 0, none⟩ = false := blk_free Hq.out 0
      refine wpAnyH_ready (rs := [6]) (by kernel_rfl) (by simp) ?_
      refine AllReadyH.cons (o := { dst := none, op := Go.Op.store 3 (Go.Operand.tmp 7) (Go.Operand.tmp 13), type := 0, pos := "inner.go:155", after := #[{ on := 5, ground := Go.Ground.data }, { on := 4, ground := Go.Ground.data }, { on := 1, ground := Go.Ground.chain }, { on := 0, ground := Go.Ground.phase }, { on := 1, ground := Go.Ground.phase }, { on := 2, ground := Go.Ground.phase }, { on := 3, ground := Go.Ground.phase }, { on := 4, ground := Go.Ground.phase }, { on := 5, ground := Go.Ground.phase }], guard := none }) rfl (fun K hK => ?_) AllReadyH.nil
      go_simp
      have HBs := Lib.hid (show Below w0.heap.size w0 (w4.setCell ⟨q, 0, none⟩ (.int .i64 (2 * (qF pr H : Int)))) from HBw4.out.setCell Hqs.out _)
      have HQs := Lib.hid (show (w4.setCell ⟨q, 0, none⟩ (.int .i64 (2 * (qF pr H : Int)))).heap[q]? = some (.cells #[.int .i64 (2 * (qF pr H : Int))] 3 (0, 0)) from by simpa using setCell_block (i := 0) Hq.out (.int .i64 (2 * (qF pr H : Int))))
      refine hK.out _ _ ?_ (fun hHeld => ?_)
      · exact ⟨HSS.out _ HBs.out, (Below.heap_setCell _ _ _ _ (fun e => Hgq.out e.symm)).trans HG.out⟩
      clear hK K
      refine wpAnyH_done (by kernel_rfl) ?_ _
      refine NoPanic.normal ?_
      go_wp2_with fail
      go_meet
      exact ⟨q, _, rfl, rfl, HQs, HBs, Hqs⟩
    · skip
      obtain ⟨q, eq⟩ : ∃ q, wd.heap.size = q := ⟨_, rfl⟩
      obtain ⟨w3, ew⟩ : ∃ v, World.alloc wd (.cells #[.int .i64 0] 3) = v := ⟨_, rfl⟩
      have hba : Below wd.heap.size wd w3 := by rw [← ew]; exact (Below.refl _ _).alloc (Nat.le_refl _) _
      have Hq := Lib.hid (show w3.heap[q]? = some (.cells #[.int .i64 0] 3 (0, 0)) by rw [← ew, ← eq]; exact heap_alloc_new wd _)
      have HBw3 := Lib.hid (below_trans HBd.out hba)
      have Hqs := Lib.hid (show w0.heap.size ≤ q by rw [← eq]; exact (HBd.out).size)
      skip
      go_simp
      try rw [ew]
      try rw [eq]
      refine hK.out _ _ ?_ (fun hHeld => ?_)
      · exact HSS.out _ HBw3.out
      clear hK K hba ew eq
      (try simp only [Act.put, putL])
      refine wpAnyH_ready (rs := [1]) (by kernel_rfl) (by simp) ?_
      refine AllReadyH.cons (o := { dst := some 10, op := Go.Op.call { callee := Go.Callee.value (Go.Operand.func 85), args := #[], argTypes := #[] }, type := 147, pos := "inner.go:155", after := #[], guard := none }) rfl (fun K hK => ?_) AllReadyH.nil
      go_simp
      refine (fields16_any _).mono ?_
      rintro e w4 ⟨gm, rfl, hg, hgs, hb⟩
      have HG := Lib.hid hg
      have HBw4 := Lib.hid (below_trans HBw3.out hb)
      have Hgq := Lib.hid (show q ≠ gm from fun e => by have := lt_of_block Hq.out; omega); have Hq := Lib.hid (blk_on Hq.out hb)
      clear hg hgs hb
      refine hK.out _ _ ?_ (fun hHeld => ?_)
      · exact HSS.out _ HBw4.out
      clear hK K
      (try simp only [Act.put, putL])
      refine anyH_mono (S' := fun W => (W.cell? ⟨z + 1 + 1, 0, none⟩ = some (.int .i64 (2 * (H : Int))) ∧ W.cell? ⟨z + 1, 0, none⟩ = some (.int .u8 pr)) ∧ W.heap[gm]? = some fieldsO) (fun _ h => h.1) _ _ _ _ ?_
      have hHeld := And.intro (HSS.out _ HBw4.out) HG.out
      have hlook := fun W h => look_fields W gm pr y h Hy.out
      refine tk 3 ?_ rfl ?_ ?_
      rotate_left
      · intro w' hSw; (go_simp <;> (with_reducible rfl))
      try simp only [Act.put, putL]
      refine tk 4 ?_ rfl ?_ ?_
      rotate_left
      · intro w' hSw; (go_simp <;> (with_reducible rfl))
      try simp only [Act.put, putL]
      have qc : w4.cell? ⟨q, 0, none⟩ = some (.int .i64 0) := blk_cell Hq.out 0
      have qf : w4.frozen? ⟨q, 0, none⟩ = false := blk_free Hq.out 0
      refine wpAnyH_ready (rs := [6]) (by kernel_rfl) (by simp) ?_
      refine AllReadyH.cons (o := { dst := none, op := Go.Op.store 3 (Go.Operand.tmp 7) (Go.Operand.tmp 13), type := 0, pos := "inner.go:155", after := #[{ on := 5, ground := Go.Ground.data }, { on := 4, ground := Go.Ground.data }, { on := 1, ground := Go.Ground.chain }, { on := 0, ground := Go.Ground.phase }, { on := 1, ground := Go.Ground.phase }, { on := 2, ground := Go.Ground.phase }, { on := 3, ground := Go.Ground.phase }, { on := 4, ground := Go.Ground.phase }, { on := 5, ground := Go.Ground.phase }], guard := none }) rfl (fun K hK => ?_) AllReadyH.nil
      go_simp
      have HBs := Lib.hid (show Below w0.heap.size w0 (w4.setCell ⟨q, 0, none⟩ (.int .i64 (2 * (qF pr H : Int)))) from HBw4.out.setCell Hqs.out _)
      have HQs := Lib.hid (show (w4.setCell ⟨q, 0, none⟩ (.int .i64 (2 * (qF pr H : Int)))).heap[q]? = some (.cells #[.int .i64 (2 * (qF pr H : Int))] 3 (0, 0)) from by simpa using setCell_block (i := 0) Hq.out (.int .i64 (2 * (qF pr H : Int))))
      refine hK.out _ _ ?_ (fun hHeld => ?_)
      · exact ⟨HSS.out _ HBs.out, (Below.heap_setCell _ _ _ _ (fun e => Hgq.out e.symm)).trans HG.out⟩
      clear hK K
      refine wpAnyH_done (by kernel_rfl) ?_ _
      refine NoPanic.normal ?_
      go_wp2_with fail
      go_meet
      exact ⟨q, _, rfl, rfl, HQs, HBs, Hqs⟩
  case rest =>
    obtain ⟨q, w5, rfl, e5, HQ5, HB5, Hqs5⟩ := hcut
    have e5 := e5.symm
    subst e5
    have HZ5 := Lib.hid (show w5.heap[z]? = some (.cells #[.slice (some ⟨g, 0, none⟩) n c] 24 (0, 0)) ∧ w5.heap[z + 1]? = some (.cells #[.int .u8 pr] 5 (0, 0)) ∧ w5.heap[z + 1 + 1]? = some (.cells #[.int .i64 (2 * (H : Int))] 3 (0, 0)) from ⟨blk_on HZ0.out.1 HB5.out, blk_on HZ0.out.2.1 HB5.out, blk_on HZ0.out.2.2 HB5.out⟩)
    have HA5 := Lib.hid (HA.out.below HB5.out)
    have HB5 := Lib.hid (below_trans HB0.out HB5.out)
    have q0 : w5.cell? ⟨z, 0, none⟩ = some (.slice (some ⟨g, 0, none⟩) n c) := blk_cell HZ5.out.1 0
    have q1 : w5.cell? ⟨z + 1, 0, none⟩ = some (.int .u8 pr) := blk_cell HZ5.out.2.1 0
    have q2 : w5.cell? ⟨z + 1 + 1, 0, none⟩ = some (.int .i64 (2 * (H : Int))) := blk_cell HZ5.out.2.2 0
    have q3 : w5.cell? ⟨q, 0, none⟩ = some (.int .i64 (2 * (qF pr H : Int))) := blk_cell HQ5.out 0
    have hnI : (n : Int) ≤ 140737488355328 := by have := Hn.out; omega
    by_cases h1 : 2 * qF pr H + 2 ≤ n
    · have d0 : decide (2 * (qF pr H : Int) + 2 ≤ (n : Int)) = true := by simp; omega
      have d1 : 2 * (qF pr H : Int) + 2 ≤ (n : Int) := by omega
      have H1 := Lib.hid h1
      clear h1
      by_cases h2 : pr = 17
      · have p2 : (pr != 17) = false := by simpa using h2
        have H2 := Lib.hid h2
        clear h2
        obtain ⟨v, ev⟩ : ∃ v, wordL l (qF pr H) = v := ⟨_, rfl⟩
        have Ev := Lib.hid ev
        clear ev
        go_wp2_with fail
        refine (iword_any (some ⟨g, 0, none⟩) n c l _ v (qF pr H) _ Hn.out rfl (by have := H1.out; omega) HA5.out Ev.out).mono ?_
        rintro e wv ⟨rfl, hbv⟩
        have HZ5 := Lib.hid (show wv.heap[z]? = some (.cells #[.slice (some ⟨g, 0, none⟩) n c] 24 (0, 0)) ∧ wv.heap[z + 1]? = some (.cells #[.int .u8 pr] 5 (0, 0)) ∧ wv.heap[z + 1 + 1]? = some (.cells #[.int .i64 (2 * (H : Int))] 3 (0, 0)) from ⟨blk_on HZ5.out.1 hbv, blk_on HZ5.out.2.1 hbv, blk_on HZ5.out.2.2 hbv⟩)
        have HQ5 := Lib.hid (blk_on HQ5.out hbv)
        have HB5 := Lib.hid (below_trans HB5.out hbv)
        clear q0 q1 q2 q3 hbv HA5
        by_cases h3 : v = 0
        · have p3 : (v != 0) = false := by simpa using h3
          have H3 := Lib.hid h3
          clear h3
          obtain ⟨y2, ey2⟩ : ∃ v, wv.heap.size = v := ⟨_, rfl⟩
          obtain ⟨w6, ew6⟩ : ∃ v, wv.alloc (.cells #[.bool false] 4) = v := ⟨_, rfl⟩
          have hba : Below wv.heap.size wv w6 := by rw [← ew6]; exact (Below.refl _ _).alloc (Nat.le_refl _) _
          have HT := Lib.hid (show w6.heap[y2]? = some (.cells #[.bool false] 4 (0, 0)) by rw [← ew6, ← ey2]; exact heap_alloc_new wv _)
          have HB6 := Lib.hid (below_trans HB5.out hba)
          have Hba := Lib.hid hba
          have Hy2 := Lib.hid (show g < y2 by have := HB5.out.size; have := Hg.out; omega)
          have E6 := Lib.hid ew6
          have Ey2 := Lib.hid ey2
          clear ew6 ey2 hba
          go_upto_region 3 with (fail)
          rw [E6.out]
          try rw [Ey2.out]
          clear E6 Ey2
          go_wp2_with fail
          go_ret
          refine ⟨z, z + 1 + 1, y2, z + 1, q, rfl, ?_, HB6.out⟩
          have hth : th = false := by rw [← Hth.out]; unfold thL; rw [Ev.out]; simp [H2.out, H3.out]
          rw [hth]
          exact ⟨blk_on HZ5.out.1 Hba.out, blk_on HZ5.out.2.2 Hba.out, HT.out, blk_on HZ5.out.2.1 Hba.out, blk_on HQ5.out Hba.out, by have := Hg.out; have := Hz.out; omega, by have := Hg.out; have := Hz.out; omega, by have := Hy2.out; omega, by have := Hg.out; have := Hz.out; omega, by have := Hg.out; have := Hqs5.out; have := HB0.out.size; omega⟩
        · have p3 : (v != 0) = true := by simpa using h3
          have H3 := Lib.hid h3
          clear h3
          obtain ⟨y2, ey2⟩ : ∃ v, wv.heap.size = v := ⟨_, rfl⟩
          obtain ⟨w6, ew6⟩ : ∃ v, wv.alloc (.cells #[.bool true] 4) = v := ⟨_, rfl⟩
          have hba : Below wv.heap.size wv w6 := by rw [← ew6]; exact (Below.refl _ _).alloc (Nat.le_refl _) _
          have HT := Lib.hid (show w6.heap[y2]? = some (.cells #[.bool true] 4 (0, 0)) by rw [← ew6, ← ey2]; exact heap_alloc_new wv _)
          have HB6 := Lib.hid (below_trans HB5.out hba)
          have Hba := Lib.hid hba
          have Hy2 := Lib.hid (show g < y2 by have := HB5.out.size; have := Hg.out; omega)
          have E6 := Lib.hid ew6
          have Ey2 := Lib.hid ey2
          clear ew6 ey2 hba
          go_upto_region 3 with (fail)
          rw [E6.out]
          try rw [Ey2.out]
          clear E6 Ey2
          go_wp2_with fail
          go_ret
          refine ⟨z, z + 1 + 1, y2, z + 1, q, rfl, ?_, HB6.out⟩
          have hth : th = true := by rw [← Hth.out]; unfold thL; rw [Ev.out, Hlen.out]; simp [H1.out, H3.out]
          rw [hth]
          exact ⟨blk_on HZ5.out.1 Hba.out, blk_on HZ5.out.2.2 Hba.out, HT.out, blk_on HZ5.out.2.1 Hba.out, blk_on HQ5.out Hba.out, by have := Hg.out; have := Hz.out; omega, by have := Hg.out; have := Hz.out; omega, by have := Hy2.out; omega, by have := Hg.out; have := Hz.out; omega, by have := Hg.out; have := Hqs5.out; have := HB0.out.size; omega⟩
      · have p2 : (pr != 17) = true := by simpa using h2
        have H2 := Lib.hid h2
        clear h2
        obtain ⟨y2, ey2⟩ : ∃ v, w5.heap.size = v := ⟨_, rfl⟩
        obtain ⟨w6, ew6⟩ : ∃ v, w5.alloc (.cells #[.bool true] 4) = v := ⟨_, rfl⟩
        have hba : Below w5.heap.size w5 w6 := by rw [← ew6]; exact (Below.refl _ _).alloc (Nat.le_refl _) _
        have HT := Lib.hid (show w6.heap[y2]? = some (.cells #[.bool true] 4 (0, 0)) by rw [← ew6, ← ey2]; exact heap_alloc_new w5 _)
        have HB6 := Lib.hid (below_trans HB5.out hba)
        have Hba := Lib.hid hba
        have Hy2 := Lib.hid (show g < y2 by have := HB5.out.size; have := Hg.out; omega)
        have E6 := Lib.hid ew6
        have Ey2 := Lib.hid ey2
        clear ew6 ey2 hba
        go_upto_region 3 with (fail)
        rw [E6.out]
        try rw [Ey2.out]
        clear E6 Ey2
        go_wp2_with fail
        go_ret
        refine ⟨z, z + 1 + 1, y2, z + 1, q, rfl, ?_, HB6.out⟩
        have hth : th = true := by rw [← Hth.out]; unfold thL; rw [Hlen.out]; simp [H1.out, H2.out]
        rw [hth]
        exact ⟨blk_on HZ5.out.1 Hba.out, blk_on HZ5.out.2.2 Hba.out, HT.out, blk_on HZ5.out.2.1 Hba.out, blk_on HQ5.out Hba.out, by have := Hg.out; have := Hz.out; omega, by have := Hg.out; have := Hz.out; omega, by have := Hy2.out; omega, by have := Hg.out; have := Hz.out; omega, by have := Hg.out; have := Hqs5.out; have := HB0.out.size; omega⟩
    · have d0 : decide (2 * (qF pr H : Int) + 2 ≤ (n : Int)) = false := by simp; omega
      have d1 : ¬ 2 * (qF pr H : Int) + 2 ≤ (n : Int) := by omega
      have H1 := Lib.hid h1
      clear h1
      obtain ⟨y2, ey2⟩ : ∃ v, w5.heap.size = v := ⟨_, rfl⟩
      obtain ⟨w6, ew6⟩ : ∃ v, w5.alloc (.cells #[.bool false] 4) = v := ⟨_, rfl⟩
      have hba : Below w5.heap.size w5 w6 := by rw [← ew6]; exact (Below.refl _ _).alloc (Nat.le_refl _) _
      have HT := Lib.hid (show w6.heap[y2]? = some (.cells #[.bool false] 4 (0, 0)) by rw [← ew6, ← ey2]; exact heap_alloc_new w5 _)
      have HB6 := Lib.hid (below_trans HB5.out hba)
      have Hba := Lib.hid hba
      have Hy2 := Lib.hid (show g < y2 by have := HB5.out.size; have := Hg.out; omega)
      have E6 := Lib.hid ew6
      have Ey2 := Lib.hid ey2
      clear ew6 ey2 hba
      go_upto_region 3 with (fail)
      rw [E6.out]
      try rw [Ey2.out]
      clear E6 Ey2
      go_wp2_with fail
      go_ret
      refine ⟨z, z + 1 + 1, y2, z + 1, q, rfl, ?_, HB6.out⟩
      have hth : th = false := by rw [← Hth.out]; unfold thL; rw [Hlen.out]; simp; intro h; exact absurd h H1.out
      rw [hth]
      exact ⟨blk_on HZ5.out.1 Hba.out, blk_on HZ5.out.2.2 Hba.out, HT.out, blk_on HZ5.out.2.1 Hba.out, blk_on HQ5.out Hba.out, by have := Hg.out; have := Hz.out; omega, by have := Hg.out; have := Hz.out; omega, by have := Hy2.out; omega, by have := Hg.out; have := Hz.out; omega, by have := Hg.out; have := Hqs5.out; have := HB0.out.size; omega⟩
end Go.Proofs.YtoegfgbalcholaaGreat
