/-
  The contract of package wheel's takeDown.
-/
import Derived.Test.YtlpgabbnldalhaaWhlPlace
import Derived.Test.YtlpgabbnldalhaaAlmDel
namespace Go.Proofs.Ytlpgabbnldalhaa
set_option maxRecDepth 10000
open Go.RowKit
set_option linter.unusedSimpArgs false
set_option linter.unusedVariables false

def upd {α : Type} (f : Nat → α) (j : Nat) (x : α) : Nat → α := fun i => if i = j then x else f i
theorem upd_same {α : Type} (f : Nat → α) (j : Nat) (x : α) : upd f j x j = x := if_pos rfl
theorem upd_ne {α : Type} (f : Nat → α) {i j : Nat} (x : α) (h : i ≠ j) : upd f j x i = f i := if_neg h
/-- One of the lists is another one now. -/
theorem WMem.lay {w w1 : World} {S : Nat → Prop} {g m : Nat} {C : Array Value} {hs : Nat → Value} {ck : Int} {sl : Nat → AL} {K : Int → Prop} {R : Int → Value} (h : WMem w S g m C hs ck sl K R) {j : Nat} (hj : j < 64) (hB : But (fun k => (hs j).ownBlock = some k) w w1) {v : Value} {M : AL}
    (hv : SlV w1 65 2 v M.length (flatA M)) (ho : ∀ b, v.ownBlock = some b → (hs j).ownBlock = some b ∨ w.heap.size ≤ b) :
    WMem (w1.setCell ⟨g, 3 + j, none⟩ v) (fun k => S k ∨ v.ownBlock = some k) g m (C.setIfInBounds (3 + j) v) (upd hs j v) ck (upd sl j M) K R ∧ But S w (w1.setCell ⟨g, 3 + j, none⟩ v) ∧ ∀ k, (S k ∨ v.ownBlock = some k) → S k ∨ w.heap.size ≤ k := by
  have hbox := hB.blk h.box (fun e => h.gr hj e rfl)
  have hB2 : But (fun k => k = g) w1 (w1.setCell ⟨g, 3 + j, none⟩ v) := (But.refl (fun k => k = g) w1).setCell (p := ⟨g, 3 + j, none⟩) rfl v
  have hvg : ∀ b, v.ownBlock = some b → b ≠ g := fun b hb e => by
    subst e
    rcases ho b hb with h1 | h1
    · exact h.gr hj h1 rfl
    · exact absurd (h.lt b h.sg) (by omega)
  refine ⟨⟨heap_setCell_at hbox _ _, by simpa using h.size, ?_, ?_, ?_, fun i hi => ?_, (h.map.but hB (fun e => h.mr hj e rfl)).but hB2 (fun e => h.gm e.symm), fun i hi => ?_, fun i i2 b hi hi2 h1 h2 => ?_, .inl h.sg, .inl h.sm, fun i b hi hb => ?_, fun k hk => ?_⟩, ?_, fun k hk => ?_⟩
  · rw [Array.getElem?_setIfInBounds_ne (by omega)]; exact h.c0
  · rw [Array.getElem?_setIfInBounds_ne (by omega)]; exact h.c1
  · rw [Array.getElem?_setIfInBounds_ne (by omega)]; exact h.c2
  · by_cases e : i = j
    · subst e
      rw [upd_same]
      have h3 : 3 + i < C.size := by rw [h.size]; omega
      simp [h3]
    · rw [upd_ne _ _ e, Array.getElem?_setIfInBounds_ne (by omega)]
      exact h.cs i hi
  · by_cases e : i = j
    · subst e
      rw [upd_same, upd_same]
      exact hv.but hB2 (fun b hb => hvg b hb)
    · rw [upd_ne _ _ e, upd_ne _ _ e]
      exact ((h.row i hi).but hB (fun b hb e2 => e (h.apart i j b hi hj hb e2))).but hB2 (fun b hb e2 => h.gr hi hb e2.symm)
  · by_cases e : i = j
    · subst e
      by_cases e2 : i2 = i
      · exact e2.symm
      · rw [upd_same] at h1
        rw [upd_ne _ _ e2] at h2
        rcases ho b h1 with h3 | h3
        · exact h.apart i i2 b hi hi2 h3 h2
        · exact absurd (h.lt b (h.sr i2 b hi2 h2)) (by omega)
    · rw [upd_ne _ _ e] at h1
      by_cases e2 : i2 = j
      · subst e2
        rw [upd_same] at h2
        rcases ho b h2 with h3 | h3
        · exact h.apart i i2 b hi hi2 h1 h3
        · exact absurd (h.lt b (h.sr i b hi h1)) (by omega)
      · rw [upd_ne _ _ e2] at h2
        exact h.apart i i2 b hi hi2 h1 h2
  · by_cases e : i = j
    · subst e
      rw [upd_same] at hb
      exact .inr hb
    · rw [upd_ne _ _ e] at hb
      exact .inl (h.sr i b hi hb)
  · have e1 : (w1.setCell ⟨g, 3 + j, none⟩ v).heap.size = w1.heap.size := by simp [World.setCell]
    rw [e1]
    rcases hk with hk | hk
    · exact hB.lt (h.lt k hk)
    · exact hv.lt hk
  · exact (hB.mono (S' := S) (fun k _ e => h.sr j k hj e)).trans2 hB2 (fun k _ e => e ▸ h.sg)
  · rcases hk with hk | hk
    · exact .inl hk
    · rcases ho k hk with h1 | h1
      · exact .inl (h.sr j k hj h1)
      · exact .inr h1
/-- Its map is another one now. -/
theorem WMem.turn {w w' : World} {S : Nat → Prop} {g m : Nat} {C : Array Value} {hs : Nat → Value} {ck : Int} {sl : Nat → AL} {K K' : Int → Prop} {R R' : Int → Value} (h : WMem w S g m C hs ck sl K R) (hB : But (fun k => k = m) w w') (hm : MUP w' m K' R') :
    WMem w' S g m C hs ck sl K' R' :=
  ⟨hB.blk h.box h.gm, h.size, h.c0, h.c1, h.c2, h.cs, hm, fun j hj => (h.row j hj).but hB (fun b hb e => h.mr hj hb e.symm), h.apart, h.sg, h.sm, h.sr, fun k hk => hB.lt (h.lt k hk)⟩
/-- What a call leaves of a wheel. -/
def Leaves (S : Nat → Prop) (g m : Nat) (ck : Int) (sl : Nat → AL) (K : Int → Prop) (R : Int → Value) (v : Value) (w : World) (e : Ending) (w' : World) : Prop :=
  e = .returned v ∧ ∃ S' C' hs', WMem w' S' g m C' hs' ck sl K R ∧ But S w w' ∧ ∀ k, S' k → S k ∨ w.heap.size ≤ k
theorem kBef_mem {a : Int × Int} {M : AL} (hs : sortW M) (ha : a ∈ M) : kBef a M < M.length ∧ M.getD (kBef a M) (0, 0) = a := by
  obtain ⟨i, hi, e⟩ := List.getElem_of_mem ha
  have eg : M.getD i (0, 0) = a := by simp [List.getD, hi, e]
  have : kBef a M = i := kBef_at (by omega) (fun t ht => by have := hs.getD ht hi; rwa [eg] at this) (fun t ht hl hb => by
    by_cases e2 : t = i
    · subst e2; rw [eg] at hb; exact befW.irrefl hb
    · have := hs.getD (i := i) (j := t) (by omega) hl
      rw [eg] at this
      exact befW.asymm this hb)
  rw [this]
  exact ⟨hi, eg⟩
theorem take_no (S : Nat → Prop) (g m : Nat) (C : Array Value) (hs : Nat → Value) (ck id : Int) (sl : Nat → AL) (K : Int → Prop) (R : Int → Value) (w : World) (h : WMem w S g m C hs ck sl K R) (hK : ¬ K id) :
    Calls Try.prog 26 #[.pointer (some ⟨g, 0, none⟩), .int .u64 id] w (JustIs (.bool false) w) := by
  have k2 := h.k2
  have hl := h.map.lookno_u hK
  clear h
  go_enter Try.func26, Try.ntmps26
  go_wp2_with fail
  go_ret
  exact ⟨rfl, rfl⟩
set_option maxHeartbeats 1000000 in
theorem take_yes (S : Nat → Prop) (g m : Nat) (C : Array Value) (hs : Nat → Value) (ck id at_ : Int) (sl : Nat → AL) (K : Int → Prop) (R : Int → Value) (w : World) (h : WMem w S g m C hs ck sl K R) (hK : K id) (hR : R id = .int .u64 at_) (ha : 0 ≤ at_)
    (j : Nat) (hjs : slotA (id, at_) = j) (hso : sortW (sl j)) (hm : (id, at_) ∈ sl j) (hb : (sl j).length ≤ 1000000) :
    Calls Try.prog 26 #[.pointer (some ⟨g, 0, none⟩), .int .u64 id] w (Leaves S g m ck (upd sl j ((sl j).eraseIdx (kBef (id, at_) (sl j)))) (fun e => e ≠ id ∧ K e) R (.bool true) w) := by
  have hj : j < 64 := by rw [← hjs]; exact slotA_lt _
  obtain ⟨hk, hkg⟩ := kBef_mem hso hm
  have k2 := h.k2
  have hl := h.map.lookok_u hK
  rw [hR] at hl
  have HPl := Lib.hid (place_any S g m C hs ck sl K R (id, at_) w h ha (by rw [hjs]; exact hso) (by rw [hjs]; exact hb))
  rw [hjs] at HPl
  obtain ⟨k, ek⟩ : ∃ k, kBef (id, at_) (sl j) = k := ⟨_, rfl⟩
  rw [ek] at HPl hk ⊢
  obtain ⟨n, en⟩ : ∃ n, (sl j).length = n := ⟨_, rfl⟩
  have hrow := h.row j hj
  rw [en] at hrow hk hb
  have hrow2 := hrow
  rcases hrow2 with ⟨_, e0, _⟩ | ⟨g2, o, c, ev, hr⟩
  · omega
  have hown : (hs j).ownBlock = some g2 := by rw [ev]; rfl
  have Hdel := Lib.hid (fun (W : World) (hW : Below w.heap.size w W) => del_anyA g2 o c k n (n - k - 1) ((k : Int) + 1) (sl j) W (hr.but (But.of (S := fun _ => False) hW) (fun x => x)) en (by omega) (by omega) (by omega))
  have Hk2 := Lib.hid (fun (W : World) (hW : Below w.heap.size w W) => (h.below hW).k2)
  have Hkj := Lib.hid (fun (W : World) (hW : Below w.heap.size w W) => (h.below hW).kj hj)
  have H := Lib.hid h
  have Hev := Lib.hid ev
  have hw1 : IntKind.i64.wrap ((k : Int) + 1) = (k : Int) + 1 := by rw [IntKind.wrap_i64]; omega
  have HK := Lib.hid hK
  clear h hrow hr hkg hR hm hso hb hK
  go_enter Try.func26, Try.ntmps26
  go_wp2_with fail
  refine HPl.out.mono ?_
  rintro e w1 ⟨rfl, hB1⟩
  have HB1 := Lib.hid hB1
  have kj1 := Hkj.out w1 hB1
  rw [Hev.out] at kj1
  clear hB1
  go_wp2_with fail
  refine (Hdel.out w1 HB1.out).mono ?_
  rintro e w2 ⟨A2, c2, rfl, hs2, hB2, ho2⟩
  obtain ⟨hM3, hB3, hS3⟩ := (H.out.below HB1.out).lay hj (by rw [Hev.out]; exact hB2) hs2 (by rw [Hev.out]; exact ho2)
  have kj2 := (hB2.cell (p := ⟨g, 3 + j, none⟩) ((H.out.below HB1.out).lt g H.out.sg) (fun e => H.out.gr hj (hown.trans (show some g2 = some g from e)) rfl)).trans kj1
  have fr2 := (hB2.frozen (p := ⟨g, 3 + j, none⟩) ((H.out.below HB1.out).lt g H.out.sg) (fun e => H.out.gr hj (hown.trans (show some g2 = some g from e)) rfl)).trans ((H.out.below HB1.out).free (3 + j))
  obtain ⟨w3, ew3⟩ : ∃ w3, w2.setCell ⟨g, 3 + j, none⟩ (.slice A2 ((sl j).eraseIdx k).length c2) = w3 := ⟨_, rfl⟩
  rw [ew3] at hM3 hB3
  obtain ⟨w4, hr4, hm4, hB4⟩ := hM3.map.del_u HK.out 0
  have HL := Lib.hid (show Leaves S g m ck (upd sl j ((sl j).eraseIdx k)) (fun e => e ≠ id ∧ K e) R (.bool true) w (.returned (.bool true)) w4 from by
    have hB13 : But S w w3 := (But.of HB1.out).trans hB3
    refine ⟨rfl, _, _, _, hM3.turn hB4 hm4, hB13.trans (hB4.mono (fun k _ e => e ▸ H.out.sm)), fun k hk => ?_⟩
    rcases hS3 k hk with h1 | h1
    · exact .inl h1
    · exact .inr (Nat.le_trans HB1.out.size h1))
  have k23 := hM3.k2
  have Ew3 := Lib.hid ew3
  have Hr4 := Lib.hid hr4
  clear hM3 hB3 hS3 hs2 hB2 ho2 hm4 hB4 hr4 ew3 kj1
  go_upto_region 6 with (fail)
  rw [Ew3.out]
  have hr4 := Hr4.out
  go_wp2_with fail
  go_ret
  exact HL.out
end Go.Proofs.Ytlpgabbnldalhaa
