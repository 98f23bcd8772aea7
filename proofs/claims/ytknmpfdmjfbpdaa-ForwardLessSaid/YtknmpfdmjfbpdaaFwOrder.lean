/-
  The program's inOrder and New (package forward), and a table in memory.
-/
import Derived.Test.YtknmpfdmjfbpdaaFwSort
import Derived.Test.YtknmpfdmjfbpdaaFwClone
import Derived.Test.YtknmpfdmjfbpdaaFwMay
namespace Go.Proofs.Ytknmpfdmjfbpdaa
set_option maxRecDepth 10000
open Go.RowKit
set_option linter.unusedSimpArgs false
set_option linter.unusedVariables false

def RowIsW (M : FWL) (w : World) (e : Ending) (w' : World) : Prop := CloneIsW M w e w'
theorem sorted_all {L M : FWL} (h : L.Pairwise FwNe) (hp : M.Perm L) (hs : ∀ i j, i < j → j < M.length → ¬ fwLt (M.getD j fw0) (M.getD i fw0) = true) : M = fwAll L := by
  refine fwAll_only ?_ hp
  have hne : M.Pairwise FwNe := h.perm hp.symm (fun h => h.symm)
  rw [List.pairwise_iff_getElem] at hne ⊢
  intro i j hi hj hij
  have h1 := hne i j hi hj hij
  have h2 := hs i j hij hj
  rw [show M.getD j fw0 = M[j] by simp [List.getD, hj], show M.getD i fw0 = M[i] by simp [List.getD, hi]] at h2
  rcases fwLt_or h1 with h3 | h3
  · exact h3
  · exact absurd h3 h2
theorem inorder_any (A : Option Addr) (n c : Nat) (L : FWL) (w : World) (h : RdW w A L) (hn : L.length = n) (hl : n ≤ 1000000) (hne : L.Pairwise FwNe) :
    Calls Try.prog 26 #[.slice A n c] w (CloneIsW (fwAll L) w) := by
  have Hc := Lib.hid (clone_anyW A n c L w h hn hl)
  have Hn := Lib.hid hn
  have Hne := Lib.hid hne
  clear h hn hne
  go_enter Try.func26, Try.ntmps26
  go_wp2_with fail
  refine Hc.out.mono ?_
  rintro e w1 ⟨A1, c1, rfl, hs1, hown, hb1⟩
  rw [Hn.out] at hs1 hown ⊢
  have Hs := Lib.hid (sort_anyW A1 n c1 L w1 hs1 Hn.out hl)
  have Hown := Lib.hid hown
  have Hb1 := Lib.hid hb1
  clear hs1 hown hb1
  go_wp2_with fail
  refine Hs.out.mono ?_
  rintro e w2 ⟨rfl, M, hp, hs, hsl, hbut⟩
  have hML : M.length = n := by rw [hp.length_eq]; exact Hn.out
  have hM := sorted_all Hne.out hp (by rw [hML]; exact hs)
  have HF := Lib.hid (show CloneIsW (fwAll L) w (.returned (.slice A1 n c1)) w2 by
    have hal : (fwAll L).length = n := by rw [← hM, hML]
    refine ⟨A1, c1, by rw [hal], by rw [hal, ← hM]; exact hsl, by rw [hal]; exact Hown.out, Hb1.out.trans (hbut.below (fun k hk => Hown.out k hk) Hb1.out.size)⟩)
  clear hp hs hsl hbut hML hM
  go_wp2_with fail
  go_ret
  exact HF.out
/-- A table of the forwards L, in block g; S: the blocks that it lies in. -/
structure FwMem (w : World) (S : Nat → Prop) (g : Nat) (L : FWL) : Prop where
  box : ∃ (b : Nat) (A : Option Addr) (c N : Nat) (K : Int × Int → Prop) (R : Int × Int → Fw), w.heap[g]? = some (.cells #[.map (some b), .slice A L.length c] 61 (0, 0)) ∧ MDP w b N K R ∧ DInv L L.length N K R ∧
    SlV w 40 4 (.slice A L.length c) L.length (flatW4 (fwAll L)) ∧ S b ∧ ∀ k, (Value.slice A L.length c).ownBlock = some k → S k
  sg : S g
  lt : ∀ k, S k → k < w.heap.size
  ne : L.Pairwise FwNe
theorem FwMem.but {S Z : Nat → Prop} {w w' : World} {g : Nat} {L : FWL} (h : FwMem w S g L) (hb : But Z w w') (hn : ∀ k, S k → ¬ Z k) : FwMem w' S g L := by
  obtain ⟨⟨b, A, c, N, K, R, hg, hM, hD, hs, hSb, hSk⟩, sg, lt, ne⟩ := h
  exact ⟨⟨b, A, c, N, K, R, hb.blk hg (hn g sg), hM.but hb (hn b hSb), hD, hs.but hb (fun k hk => hn k (hSk k hk)), hSb, hSk⟩, sg, fun k hk => hb.lt (lt k hk), ne⟩
theorem FwMem.below {S : Nat → Prop} {w w' : World} {g : Nat} {L : FWL} (h : FwMem w S g L) (hb : Below w.heap.size w w') : FwMem w' S g L := h.but (Z := fun _ => False) (But.of hb) (fun _ _ h => h)
def NewsW (L : FWL) (w : World) (e : Ending) (w' : World) : Prop := ∃ g S, e = .returned (.tuple #[.pointer (some ⟨g, 0, none⟩), .int .i64 0]) ∧ FwMem w' S g L ∧ (∀ k, S k → w.heap.size ≤ k) ∧ Below w.heap.size w w'
theorem new_bad (k : Cfg) (A : Option Addr) (n c : Nat) (L : FWL) (w : World) (h : RdW w A L) (hn : L.length = n) (hl : n ≤ 1000000) (hx : ¬ FwMay (okF k) L) :
    Calls Try.prog 8 #[.agg #[.int .u32 k.ins, .int .u32 k.msk, k.v2, .int .u16 k.lo, .int .u16 k.hi, k.v5, k.v6, k.v7, k.v8, k.v9, k.va, k.vb, k.vc, k.vd, k.ve, k.vf, k.vg, k.vh, k.vi], .slice A n c] w (FwTells (.tuple #[.pointer none, .int .i64 1]) w) := by
  obtain ⟨w0, ew⟩ : ∃ w0, w.alloc (.cells #[.int .u32 k.ins, .int .u32 k.msk, k.v2, .int .u16 k.lo, .int .u16 k.hi, k.v5, k.v6, k.v7, k.v8, k.v9, k.va, k.vb, k.vc, k.vd, k.ve, k.vf, k.vg, k.vh, k.vi] 29) = w0 := ⟨_, rfl⟩
  obtain ⟨z, hz⟩ : ∃ z, w.heap.size = z := ⟨_, rfl⟩
  have hb0 : Below w.heap.size w w0 := by rw [← ew]; exact (Below.refl _ _).alloc (Nat.le_refl _) _
  have hk0 : w0.heap[z]? = some (.cells #[.int .u32 k.ins, .int .u32 k.msk, k.v2, .int .u16 k.lo, .int .u16 k.hi, k.v5, k.v6, k.v7, k.v8, k.v9, k.va, k.vb, k.vc, k.vd, k.ve, k.vf, k.vg, k.vh, k.vi] 29 (0, 0)) := by rw [← ew, ← hz]; exact heap_alloc_new w _
  have HA := Lib.hid (h.below hb0)
  have Hn := Lib.hid hn
  have Hx := Lib.hid hx
  have Hb0 := Lib.hid hb0
  have Hk0 := Lib.hid hk0
  have Ew := Lib.hid ew
  have Hz := Lib.hid hz
  clear h hn hx hb0 hk0 ew hz
  go_enter Try.func8, Try.ntmps8
  go_upto_region 1 with (fail)
  rw [Ew.out]
  try rw [Hz.out]
  try simp only []
  repeat (first | (refine wp_load_row 29 (.tmp 2) rfl z _ _ _ _ Hk0.out rfl Try.underlying29 rfl (by kernel_rfl) ?_; simp only [Act.put, List.setIfInBounds_toArray, List.set_cons_zero, List.set_cons_succ]) | go_values | go_skip | go_guarded | go_step | go_upon | go_back)
  refine (may_any k A n c L false w0 HA.out Hn.out hl ⟨fun h => (by cases h), fun h => absurd h Hx.out⟩).mono ?_
  rintro e w1 ⟨rfl, hb1⟩
  have Hb1 := Lib.hid (below_trans Hb0.out hb1)
  clear hb1
  go_wp2_with fail
  go_ret2
  exact ⟨rfl, Hb1.out⟩
theorem new_ok (k : Cfg) (A : Option Addr) (n c : Nat) (L : FWL) (w : World) (h : RdW w A L) (hn : L.length = n) (hl : n ≤ 1000000) (hx : FwMay (okF k) L) :
    Calls Try.prog 8 #[.agg #[.int .u32 k.ins, .int .u32 k.msk, k.v2, .int .u16 k.lo, .int .u16 k.hi, k.v5, k.v6, k.v7, k.v8, k.v9, k.va, k.vb, k.vc, k.vd, k.ve, k.vf, k.vg, k.vh, k.vi], .slice A n c] w (NewsW L w) := by
  obtain ⟨w0, ew⟩ : ∃ w0, w.alloc (.cells #[.int .u32 k.ins, .int .u32 k.msk, k.v2, .int .u16 k.lo, .int .u16 k.hi, k.v5, k.v6, k.v7, k.v8, k.v9, k.va, k.vb, k.vc, k.vd, k.ve, k.vf, k.vg, k.vh, k.vi] 29) = w0 := ⟨_, rfl⟩
  obtain ⟨z, hz⟩ : ∃ z, w.heap.size = z := ⟨_, rfl⟩
  have hb0 : Below w.heap.size w w0 := by rw [← ew]; exact (Below.refl _ _).alloc (Nat.le_refl _) _
  have hk0 : w0.heap[z]? = some (.cells #[.int .u32 k.ins, .int .u32 k.msk, k.v2, .int .u16 k.lo, .int .u16 k.hi, k.v5, k.v6, k.v7, k.v8, k.v9, k.va, k.vb, k.vc, k.vd, k.ve, k.vf, k.vg, k.vh, k.vi] 29 (0, 0)) := by rw [← ew, ← hz]; exact heap_alloc_new w _
  have HA := Lib.hid (h.below hb0)
  have Hn := Lib.hid hn
  have Hx := Lib.hid hx
  have Hb0 := Lib.hid hb0
  have Hk0 := Lib.hid hk0
  have Ew := Lib.hid ew
  have Hz := Lib.hid hz
  clear h hn hx hb0 hk0 ew hz
  go_enter Try.func8, Try.ntmps8
  go_upto_region 1 with (fail)
  rw [Ew.out]
  try rw [Hz.out]
  try simp only []
  repeat (first | (refine wp_load_row 29 (.tmp 2) rfl z _ _ _ _ Hk0.out rfl Try.underlying29 rfl (by kernel_rfl) ?_; simp only [Act.put, List.setIfInBounds_toArray, List.set_cons_zero, List.set_cons_succ]) | go_values | go_skip | go_guarded | go_step | go_upon | go_back)
  refine (may_any k A n c L true w0 HA.out Hn.out hl ⟨fun _ => Hx.out, fun _ => rfl⟩).mono ?_
  rintro e w1 ⟨rfl, hb1⟩
  have Hb1 := Lib.hid hb1
  have Hd := Lib.hid (bydoor_any A n c L w1 (HA.out.below hb1) Hn.out hl)
  clear hb1
  go_wp2_with fail
  refine Hd.out.mono ?_
  rintro e w2 ⟨b, N, K, R, rfl, hM, hD, hbz, hb2⟩
  have Ho := Lib.hid (inorder_any A n c L w2 ((HA.out.below Hb1.out).below hb2) Hn.out hl Hx.out.ne)
  have HM := Lib.hid hM
  have HD := Lib.hid hD
  have Hbz := Lib.hid hbz
  have Hb2 := Lib.hid hb2
  clear hM hD hbz hb2
  go_wp2_with fail
  refine Ho.out.mono ?_
  rintro e w3 ⟨A3, c3, rfl, hs, hown, hb3⟩
  have hal : (fwAll L).length = n := by rw [(fwAll_perm L).length_eq]; exact Hn.out
  rw [hal] at hs hown ⊢
  obtain ⟨y, ey⟩ : ∃ y, w3.heap.size = y := ⟨_, rfl⟩
  obtain ⟨w4, ew4⟩ : ∃ w4, w3.alloc (.cells #[.map (some b), .slice A3 n c3] 61) = w4 := ⟨_, rfl⟩
  have hB4 : Below w3.heap.size w3 w4 := by rw [← ew4]; exact (Below.refl _ _).alloc (Nat.le_refl _) _
  have hk4 : w4.heap[y]? = some (.cells #[.map (some b), .slice A3 n c3] 61 (0, 0)) := by rw [← ew4, ← ey]; exact heap_alloc_new w3 _
  have HF := Lib.hid (show NewsW L w (.returned (.tuple #[.pointer (some ⟨y, 0, none⟩), .int .i64 0])) w4 by
    have s0 := Hb0.out.size
    have s1 := Hb1.out.size
    have s2 := Hb2.out.size
    have s3 := hb3.size
    have s4 := hB4.size
    have hM4 := (HM.out.below hb3).below hB4
    have hs4 := hs.but (But.of (S := fun _ => False) hB4) (fun _ _ h => h)
    have hbl := Hbz.out
    refine ⟨y, fun k => k = y ∨ k = b ∨ (Value.slice A3 n c3).ownBlock = some k, rfl, ⟨⟨b, A3, c3, N, K, R, by rw [Hn.out]; exact hk4, hM4, HD.out, by rw [Hn.out]; exact hs4, .inr (.inl rfl), fun k hk => .inr (.inr (by rw [Hn.out] at hk; exact hk))⟩, .inl rfl, fun k hk => ?_, Hx.out.ne⟩, fun k hk => ?_, ?_⟩
    · rcases hk with rfl | rfl | hk
      · exact lt_of_block hk4
      · exact hM4.lt
      · exact hs4.lt hk
    · rcases hk with rfl | rfl | hk
      · omega
      · omega
      · have := hown k hk; omega
    · exact below_trans (below_trans (below_trans (below_trans Hb0.out Hb1.out) Hb2.out) hb3) hB4)
  have Ew4 := Lib.hid ew4
  have Ey := Lib.hid ey
  clear hal hs hown hB4 hk4 ew4 ey hb3
  go_wp2_with fail
  try rw [Ew4.out]
  try rw [Ey.out]
  go_ret2
  exact HF.out
end Go.Proofs.Ytknmpfdmjfbpdaa
