/-
  The document's own answers for tuples (culvertref10): Bytes, Compare.
-/
import Derived.Test.YthhgdmdobfjipaaTupRef
import Derived.Test.YthhgdmdobfjipaaIcmpRefPut
import Derived.Test.YthhgdmdobfjipaaIcmpSort
import Derived.Deep.CutRange
import Derived.RegionTactic
namespace Go.Proofs.Ythhgdmdobfjipaa
set_option maxRecDepth 10000
open Go.RowKit
set_option linter.unusedSimpArgs false
set_option linter.unusedVariables false

theorem wrap_u8T (n : Int) : IntKind.u8.wrap n = n % 256 := by simp [IntKind.wrap, IntKind.bits, IntKind.signed]
theorem below_up {B : Nat} {w w' : World} {A : Option Addr} {n c : Nat} {l : List Int} (h : OwnB w B A n c l) (hB : B ≤ w.heap.size) (o : Obj) : OwnB (w.alloc o) B A n c l := h.alloc o
set_option maxHeartbeats 1000000 in
theorem rbytes_any (t : Tu) (w : World) (ht : TuNum t) : Calls Try.prog 15 #[.agg #[.int .u8 t.pr, .int .u32 t.sr, .int .u32 t.ds, .int .u16 t.sp, .int .u16 t.dp]] w (RowIs 13 (tuB t) w) := by
  obtain ⟨z, hz⟩ : ∃ z, w.heap.size = z := ⟨_, rfl⟩
  obtain ⟨w0, ew⟩ : ∃ w0, w.alloc (.cells #[.int .u8 t.pr, .int .u32 t.sr, .int .u32 t.ds, .int .u16 t.sp, .int .u16 t.dp] 37) = w0 := ⟨_, rfl⟩
  have hb0 : Below w.heap.size w w0 := by rw [← ew]; exact (Below.refl _ _).alloc (Nat.le_refl _) _
  have hk0 : w0.heap[z]? = some (.cells #[.int .u8 t.pr, .int .u32 t.sr, .int .u32 t.ds, .int .u16 t.sp, .int .u16 t.dp] 37 (0, 0)) := by rw [← ew, ← hz]; exact heap_alloc_new w _
  have hs0 : w0.heap.size = z + 1 := by rw [← ew, ← hz]; simp
  obtain ⟨c0, c1, c2, c3, c4⟩ := cells5 hk0
  have Hb0 := Lib.hid hb0
  have HK0 := Lib.hid hk0
  have Hs0 := Lib.hid hs0
  have Ew := Lib.hid ew
  have Hz := Lib.hid hz
  have Ht := Lib.hid ht
  have HO := Lib.hid (own_lit w0 w0.heap.size #[.int .u8 t.pr] [t.pr] 1 (Nat.le_refl _) rfl rfl (by omega))
  clear hb0 hk0 hs0 ew hz ht
  go_enter Try.func15, Try.ntmps15
  go_upto_region 1 with (fail)
  rw [Ew.out]
  try rw [Hz.out]
  go_upto_region 2 with (fail)
  clear c0 c1 c2 c3 c4
  go_wp2_with fail
  go_loopg [3, 4] 4 (fun gk s i wr => ∃ (j : Nat) (A2 : Option Addr) (c2 : Nat), Hid (gk + j = 4) ∧ j ≤ 4 ∧ i = .int .i64 (3 - (j : Int)) ∧ s = .slice A2 (1 + j) c2 ∧ Hid (OwnB wr w0.heap.size A2 (1 + j) c2 ([t.pr] ++ (b32 t.sr).take j)) ∧ Below w0.heap.size w0 wr)
  case atStart => exact ⟨0, _, _, rfl, Nat.zero_le _, rfl, rfl, Lib.hid (by simpa using HO.out), (Below.refl _ _).alloc (Nat.le_refl _) _⟩
  case round =>
    obtain ⟨j, A2, c2, hgk, hj, rfl, rfl, hown, hb⟩ := hrel
    by_cases hj4 : j < 4
    · skip
      have hcase : j = 0 ∨ j = 1 ∨ j = 2 ∨ j = 3 := by omega
      obtain ⟨c0, c1, c2', c3, c4⟩ := cells5 (blk_on HK0.out hb)
      obtain ⟨x0, x1⟩ := Ht.out.sr
      have y0 := wrap_u8T (t.sr / 16777216)
      have y1 := wrap_u8T (t.sr / 65536)
      have y2 := wrap_u8T (t.sr / 256)
      have y3 := wrap_u8T t.sr
      have y4 : t.sr / 16777216 % 256 = t.sr / 16777216 := by omega
      rcases hcase with rfl | rfl | rfl | rfl
      · go_wp2_with (refine wpList_app rfl (.tmp 13) (.tmp 20) rfl w0.heap.size A2 _ (1 + 0) c2 1 1 _ [t.sr / 16777216] rfl rfl (hown.out.on (Below.alloc (Below.refl _ _) (Nat.le_refl _) _)) (Rd.const_ wr wr.heap.size rfl [t.sr / 16777216] _ _ (by simp; omega)) (by omega) (by have := hb.size; simp <;> omega) ?_; intro A3 c3 w5 hown3 _ hb3 _)
        go_roundg (gk - 1)
        case measure => have := hgk.out; omega
        case rel => exact ⟨1, A3, c3, by have := hgk.out; show gk - 1 + 1 = _; omega, by omega, by rfl, rfl, Lib.hid (by rw [show (b32 t.sr).take 1 = (b32 t.sr).take 0 ++ [t.sr / 16777216] from rfl, ← List.append_assoc]; exact hown3), (hb.alloc hb.size _).trans hb3⟩
      · go_wp2_with (refine wpList_app rfl (.tmp 13) (.tmp 20) rfl w0.heap.size A2 _ (1 + 1) c2 1 1 _ [t.sr / 65536 % 256] rfl rfl (hown.out.on (Below.alloc (Below.refl _ _) (Nat.le_refl _) _)) (Rd.const_ wr wr.heap.size rfl [t.sr / 65536 % 256] _ _ (by simp; omega)) (by omega) (by have := hb.size; simp <;> omega) ?_; intro A3 c3 w5 hown3 _ hb3 _)
        go_roundg (gk - 1)
        case measure => have := hgk.out; omega
        case rel => exact ⟨2, A3, c3, by have := hgk.out; show gk - 1 + 2 = _; omega, by omega, by rfl, rfl, Lib.hid (by rw [show (b32 t.sr).take 2 = (b32 t.sr).take 1 ++ [t.sr / 65536 % 256] from rfl, ← List.append_assoc]; exact hown3), (hb.alloc hb.size _).trans hb3⟩
      · go_wp2_with (refine wpList_app rfl (.tmp 13) (.tmp 20) rfl w0.heap.size A2 _ (1 + 2) c2 1 1 _ [t.sr / 256 % 256] rfl rfl (hown.out.on (Below.alloc (Below.refl _ _) (Nat.le_refl _) _)) (Rd.const_ wr wr.heap.size rfl [t.sr / 256 % 256] _ _ (by simp; omega)) (by omega) (by have := hb.size; simp <;> omega) ?_; intro A3 c3 w5 hown3 _ hb3 _)
        go_roundg (gk - 1)
        case measure => have := hgk.out; omega
        case rel => exact ⟨3, A3, c3, by have := hgk.out; show gk - 1 + 3 = _; omega, by omega, by rfl, rfl, Lib.hid (by rw [show (b32 t.sr).take 3 = (b32 t.sr).take 2 ++ [t.sr / 256 % 256] from rfl, ← List.append_assoc]; exact hown3), (hb.alloc hb.size _).trans hb3⟩
      · go_wp2_with (refine wpList_app rfl (.tmp 13) (.tmp 20) rfl w0.heap.size A2 _ (1 + 3) c2 1 1 _ [t.sr % 256] rfl rfl (hown.out.on (Below.alloc (Below.refl _ _) (Nat.le_refl _) _)) (Rd.const_ wr wr.heap.size rfl [t.sr % 256] _ _ (by simp; omega)) (by omega) (by have := hb.size; simp <;> omega) ?_; intro A3 c3 w5 hown3 _ hb3 _)
        go_roundg (gk - 1)
        case measure => have := hgk.out; omega
        case rel => exact ⟨4, A3, c3, by have := hgk.out; show gk - 1 + 4 = _; omega, by omega, by rfl, rfl, Lib.hid (by rw [show (b32 t.sr).take 4 = (b32 t.sr).take 3 ++ [t.sr % 256] from rfl, ← List.append_assoc]; exact hown3), (hb.alloc hb.size _).trans hb3⟩
    · obtain rfl : j = 4 := by omega
      have HOA := Lib.hid hown.out
      have Hba := Lib.hid hb
      clear hown hgk hb hj hj4 HO
      go_wp2_with fail
      go_loopg [3, 5] 4 (fun gk s i wr => ∃ (j : Nat) (A2 : Option Addr) (c2 : Nat), Hid (gk + j = 4) ∧ j ≤ 4 ∧ i = .int .i64 (3 - (j : Int)) ∧ s = .slice A2 (5 + j) c2 ∧ Hid (OwnB wr w0.heap.size A2 (5 + j) c2 (([t.pr] ++ b32 t.sr) ++ (b32 t.ds).take j)) ∧ Below w0.heap.size w0 wr)
      case atStart => exact ⟨0, _, _, rfl, Nat.zero_le _, rfl, rfl, Lib.hid (by rw [List.take_zero, List.append_nil]; exact HOA.out), Hba.out⟩
      case round =>
        obtain ⟨j, A2, c2, hgk, hj, rfl, rfl, hown, hb⟩ := hrel
        by_cases hj4 : j < 4
        · skip
          have hcase : j = 0 ∨ j = 1 ∨ j = 2 ∨ j = 3 := by omega
          obtain ⟨c0, c1, c2', c3, c4⟩ := cells5 (blk_on HK0.out hb)
          obtain ⟨x0, x1⟩ := Ht.out.ds
          have y0 := wrap_u8T (t.ds / 16777216)
          have y1 := wrap_u8T (t.ds / 65536)
          have y2 := wrap_u8T (t.ds / 256)
          have y3 := wrap_u8T t.ds
          have y4 : t.ds / 16777216 % 256 = t.ds / 16777216 := by omega
          rcases hcase with rfl | rfl | rfl | rfl
          · go_wp2_with (refine wpList_app rfl (.tmp 26) (.tmp 33) rfl w0.heap.size A2 _ (5 + 0) c2 1 1 _ [t.ds / 16777216] rfl rfl (hown.out.on (Below.alloc (Below.refl _ _) (Nat.le_refl _) _)) (Rd.const_ wr wr.heap.size rfl [t.ds / 16777216] _ _ (by simp; omega)) (by omega) (by have := hb.size; simp <;> omega) ?_; intro A3 c3 w5 hown3 _ hb3 _)
            go_roundg (gk - 1)
            case measure => have := hgk.out; omega
            case rel => exact ⟨1, A3, c3, by have := hgk.out; show gk - 1 + 1 = _; omega, by omega, by rfl, rfl, Lib.hid (by rw [show (b32 t.ds).take 1 = (b32 t.ds).take 0 ++ [t.ds / 16777216] from rfl, ← List.append_assoc]; exact hown3), (hb.alloc hb.size _).trans hb3⟩
          · go_wp2_with (refine wpList_app rfl (.tmp 26) (.tmp 33) rfl w0.heap.size A2 _ (5 + 1) c2 1 1 _ [t.ds / 65536 % 256] rfl rfl (hown.out.on (Below.alloc (Below.refl _ _) (Nat.le_refl _) _)) (Rd.const_ wr wr.heap.size rfl [t.ds / 65536 % 256] _ _ (by simp; omega)) (by omega) (by have := hb.size; simp <;> omega) ?_; intro A3 c3 w5 hown3 _ hb3 _)
            go_roundg (gk - 1)
            case measure => have := hgk.out; omega
            case rel => exact ⟨2, A3, c3, by have := hgk.out; show gk - 1 + 2 = _; omega, by omega, by rfl, rfl, Lib.hid (by rw [show (b32 t.ds).take 2 = (b32 t.ds).take 1 ++ [t.ds / 65536 % 256] from rfl, ← List.append_assoc]; exact hown3), (hb.alloc hb.size _).trans hb3⟩
          · go_wp2_with (refine wpList_app rfl (.tmp 26) (.tmp 33) rfl w0.heap.size A2 _ (5 + 2) c2 1 1 _ [t.ds / 256 % 256] rfl rfl (hown.out.on (Below.alloc (Below.refl _ _) (Nat.le_refl _) _)) (Rd.const_ wr wr.heap.size rfl [t.ds / 256 % 256] _ _ (by simp; omega)) (by omega) (by have := hb.size; simp <;> omega) ?_; intro A3 c3 w5 hown3 _ hb3 _)
            go_roundg (gk - 1)
            case measure => have := hgk.out; omega
            case rel => exact ⟨3, A3, c3, by have := hgk.out; show gk - 1 + 3 = _; omega, by omega, by rfl, rfl, Lib.hid (by rw [show (b32 t.ds).take 3 = (b32 t.ds).take 2 ++ [t.ds / 256 % 256] from rfl, ← List.append_assoc]; exact hown3), (hb.alloc hb.size _).trans hb3⟩
          · go_wp2_with (refine wpList_app rfl (.tmp 26) (.tmp 33) rfl w0.heap.size A2 _ (5 + 3) c2 1 1 _ [t.ds % 256] rfl rfl (hown.out.on (Below.alloc (Below.refl _ _) (Nat.le_refl _) _)) (Rd.const_ wr wr.heap.size rfl [t.ds % 256] _ _ (by simp; omega)) (by omega) (by have := hb.size; simp <;> omega) ?_; intro A3 c3 w5 hown3 _ hb3 _)
            go_roundg (gk - 1)
            case measure => have := hgk.out; omega
            case rel => exact ⟨4, A3, c3, by have := hgk.out; show gk - 1 + 4 = _; omega, by omega, by rfl, rfl, Lib.hid (by rw [show (b32 t.ds).take 4 = (b32 t.ds).take 3 ++ [t.ds % 256] from rfl, ← List.append_assoc]; exact hown3), (hb.alloc hb.size _).trans hb3⟩
        · obtain rfl : j = 4 := by omega
          obtain ⟨c0, c1, c2', c3, c4⟩ := cells5 (blk_on HK0.out hb)
          obtain ⟨x0, x1⟩ := Ht.out.sp
          obtain ⟨x2, x3⟩ := Ht.out.dp
          have y8 : IntKind.u16.wrap (t.sp.tdiv 256) = t.sp / 256 := by rw [Int.tdiv_eq_ediv_of_nonneg x0]; simp [IntKind.wrap, IntKind.bits, IntKind.signed]; omega
          have y9 : IntKind.u16.wrap (t.dp.tdiv 256) = t.dp / 256 := by rw [Int.tdiv_eq_ediv_of_nonneg x2]; simp [IntKind.wrap, IntKind.bits, IntKind.signed]; omega
          have y0 := wrap_u8T (t.sp / 256)
          have y1 := wrap_u8T (t.sp % 256)
          have y2 := wrap_u8T (t.dp / 256)
          have y3 := wrap_u8T (t.dp % 256)
          have y4 : t.sp / 256 % 256 = t.sp / 256 := by omega
          have y5 : t.dp / 256 % 256 = t.dp / 256 := by omega
          have y6 : t.sp % 256 % 256 = t.sp % 256 := by omega
          have y7 : t.dp % 256 % 256 = t.dp % 256 := by omega
          go_wp2_with (refine wpList_app rfl (.tmp 35) (.tmp 52) rfl w0.heap.size A2 _ (5 + 4) c2 4 4 _ [t.sp / 256, t.sp % 256, t.dp / 256, t.dp % 256] rfl rfl (hown.out.on (Below.alloc (Below.refl _ _) (Nat.le_refl _) _)) (Rd.const_ wr wr.heap.size rfl [t.sp / 256, t.sp % 256, t.dp / 256, t.dp % 256] _ _ (by simp; omega)) (by omega) (by have := hb.size; simp <;> omega) ?_; intro A3 c3 w5 hown3 _ hb3 _)
          go_ret
          have hfin : OwnB w5 w0.heap.size A3 13 c3 (tuB t) := by simpa [tuB, b16, b32] using hown3
          exact ⟨A3, c3, rfl, hfin.cap, hfin.capMax, hfin.mono (by have := Hs0.out; have := Hz.out; omega), below_trans Hb0.out ((hb.alloc hb.size _).trans hb3)⟩

theorem tu_less {x y : Tu} (hx : TuNum x) (hy : TuNum y) : Op.bytesLess (strOfNums (tuB x)).toList (strOfNums (tuB y)).toList = decide (cmpT x y < 0) := by
  rw [less_str _ _ (tuB_byte hx) (tuB_byte hy), ltN_tuB hx hy]
theorem tu_seq {x y : Tu} (hx : TuNum x) (hy : TuNum y) : ((strOfNums (tuB x)).toList == (strOfNums (tuB y)).toList) = tuSame x y := by
  rw [strs_eqM _ _ (tuB_byte hx) (tuB_byte hy), Bool.eq_iff_iff, tuSame_iff, decide_eq_true_eq]
  exact ⟨fun h => tuB_inj hx hy h, fun h => by rw [h]⟩
set_option maxHeartbeats 1000000 in
theorem rcmp_any (x y : Tu) (w : World) (c : Int) (hx : TuNum x) (hy : TuNum y) (hc : cmpT x y = c) :
    Calls Try.prog 12 #[.agg #[.int .u8 x.pr, .int .u32 x.sr, .int .u32 x.ds, .int .u16 x.sp, .int .u16 x.dp], .agg #[.int .u8 y.pr, .int .u32 y.sr, .int .u32 y.ds, .int .u16 y.sp, .int .u16 y.dp]] w (IntIs c w) := by
  obtain ⟨z, hz⟩ : ∃ z, w.heap.size = z := ⟨_, rfl⟩
  obtain ⟨w0, ew⟩ : ∃ w0, (w.alloc (.cells #[.int .u8 x.pr, .int .u32 x.sr, .int .u32 x.ds, .int .u16 x.sp, .int .u16 x.dp] 37)).alloc (.cells #[.int .u8 y.pr, .int .u32 y.sr, .int .u32 y.ds, .int .u16 y.sp, .int .u16 y.dp] 37) = w0 := ⟨_, rfl⟩
  have hb0 : Below w.heap.size w w0 := by rw [← ew]; exact ((Below.refl _ _).alloc (Nat.le_refl _) _).alloc (by simp) _
  have hk0 : w0.heap[z]? = some (.cells #[.int .u8 x.pr, .int .u32 x.sr, .int .u32 x.ds, .int .u16 x.sp, .int .u16 x.dp] 37 (0, 0)) := by rw [← ew, Below.heap_alloc _ _ _ (by simp [hz]), ← hz]; exact heap_alloc_new w _
  have hk1 : w0.heap[z + 1]? = some (.cells #[.int .u8 y.pr, .int .u32 y.sr, .int .u32 y.ds, .int .u16 y.sp, .int .u16 y.dp] 37 (0, 0)) := by
    rw [← ew, ← hz]; simpa using heap_alloc_new (w.alloc (.cells #[.int .u8 x.pr, .int .u32 x.sr, .int .u32 x.ds, .int .u16 x.sp, .int .u16 x.dp] 37)) (.cells #[.int .u8 y.pr, .int .u32 y.sr, .int .u32 y.ds, .int .u16 y.sp, .int .u16 y.dp] 37)
  have HK := Lib.hid (show ∀ w', Below w0.drew.heap.size w0.drew w' → w'.heap[z]? = some (.cells #[.int .u8 x.pr, .int .u32 x.sr, .int .u32 x.ds, .int .u16 x.sp, .int .u16 x.dp] 37 (0, 0)) ∧ w'.heap[z + 1]? = some (.cells #[.int .u8 y.pr, .int .u32 y.sr, .int .u32 y.ds, .int .u16 y.sp, .int .u16 y.dp] 37 (0, 0)) from
    fun w' hb => ⟨blk_on (w := w0.drew) hk0 hb, blk_on (w := w0.drew) hk1 hb⟩)
  have Hb0 := Lib.hid hb0
  have Ew := Lib.hid ew
  have Hz := Lib.hid hz
  have Hx := Lib.hid hx
  have Hy := Lib.hid hy
  have Hc := Lib.hid hc
  clear hb0 hk0 hk1 ew hz hx hy hc
  go_enter Try.func12, Try.ntmps12
  go_upto_region 1 with (fail)
  rw [Ew.out]
  try rw [Hz.out]
  have HBd := Lib.hid (Below.refl w0.drew.heap.size w0.drew)
  refine wp_region_held_drew (S := fun w' => w'.heap[z]? = some (.cells #[.int .u8 x.pr, .int .u32 x.sr, .int .u32 x.ds, .int .u16 x.sp, .int .u16 x.dp] 37 (0, 0)) ∧ w'.heap[z + 1]? = some (.cells #[.int .u8 y.pr, .int .u32 y.sr, .int .u32 y.ds, .int .u16 y.sp, .int .u16 y.dp] 37 (0, 0))) (by kernel_rfl) (HK.out _ HBd.out) (fun hHeld => ?_)
  have Hd := Lib.hid (Below.drew (Below.refl w0.heap.size w0))
  obtain ⟨wd, ewd⟩ : ∃ wd, w0.drew = wd := ⟨_, rfl⟩
  rw [ewd] at HBd hHeld HK Hd ⊢
  clear ewd
  refine wpAnyH_take (i := 0) (oi := { dst := some 7, op := Go.Op.load 37 (Go.Operand.tmp 2), type := 37, pos := "ref.go:54", after := #[], guard := none }) (v := .agg #[.int .u8 x.pr, .int .u32 x.sr, .int .u32 x.ds, .int .u16 x.sp, .int .u16 x.dp]) rfl (by kernel_rfl) (by kernel_rfl) (by kernel_rfl) (fun _ _ _ h => h) (Or.inl ⟨by rfl, fun w' hSw => exec_row 37 (.tmp 2) rfl z _ _ _ _ (hSw.1) rfl Try.underlying37 rfl (by kernel_rfl)⟩) (by assumption) ?_
  (try simp only [Act.put, List.setIfInBounds_toArray, List.set_cons_zero, List.set_cons_succ])
  refine wpAnyH_take (i := 3) (oi := { dst := some 10, op := Go.Op.load 37 (Go.Operand.tmp 3), type := 37, pos := "ref.go:54", after := #[], guard := none }) (v := .agg #[.int .u8 y.pr, .int .u32 y.sr, .int .u32 y.ds, .int .u16 y.sp, .int .u16 y.dp]) rfl (by kernel_rfl) (by kernel_rfl) (by kernel_rfl) (fun _ _ _ h => h) (Or.inl ⟨by rfl, fun w' hSw => exec_row 37 (.tmp 3) rfl (z + 1) _ _ _ _ (hSw.2) rfl Try.underlying37 rfl (by kernel_rfl)⟩) (by assumption) ?_
  (try simp only [Act.put, List.setIfInBounds_toArray, List.set_cons_zero, List.set_cons_succ])
  refine wpAnyH_ready (rs := [1]) (by kernel_rfl) (by simp) ?_
  refine AllReadyH.cons (o := { dst := some 8, op := Go.Op.call { callee := Go.Callee.value (Go.Operand.func 15), args := #[Go.Operand.tmp 7], argTypes := #[37] }, type := 24, pos := "ref.go:54", after := #[{ on := 0, ground := Go.Ground.data }], guard := none }) rfl (fun K hK => ?_) AllReadyH.nil
  go_simp
  (refine (rbytes_any x _ Hx.out).mono ?_; rintro e w3 ⟨A3, c3, rfl, -, -, ho3, hb3⟩; have HR3 := Lib.hid (ho3.rd (tuB_byte Hx.out)); have HB3 := Lib.hid (below_trans HBd.out hb3); clear ho3 hb3)
  refine hK.out _ _ ?_ (fun hHeld => ?_)
  · exact HK.out _ HB3.out
  clear hK K
  (try simp only [Act.put, List.setIfInBounds_toArray, List.set_cons_zero, List.set_cons_succ])
  refine anyH_mono (S' := fun w' => (w'.heap[z]? = some (.cells #[.int .u8 x.pr, .int .u32 x.sr, .int .u32 x.ds, .int .u16 x.sp, .int .u16 x.dp] 37 (0, 0)) ∧ w'.heap[z + 1]? = some (.cells #[.int .u8 y.pr, .int .u32 y.sr, .int .u32 y.ds, .int .u16 y.sp, .int .u16 y.dp] 37 (0, 0))) ∧ Rd w' A3 13 (tuB x)) (fun _ h => h.1) _ _ _ _ ?_
  have hHeld := And.intro hHeld HR3.out
  refine wpAnyH_take (i := 2) (oi := { dst := some 9, op := Go.Op.convert 24 9 (Go.Operand.tmp 8), type := 9, pos := "ref.go:54", after := #[{ on := 1, ground := Go.Ground.data }], guard := none }) (v := .string (strOfNums (tuB x))) rfl (by kernel_rfl) (by kernel_rfl) (by kernel_rfl) (fun _ _ _ h => h) (Or.inl ⟨by rfl, ?_⟩) (by assumption) ?_
  · intro w' hSw; have hcv := conv_rd hSw.2 c3; (go_simp <;> (with_reducible rfl))
  (try simp only [Act.put, List.setIfInBounds_toArray, List.set_cons_zero, List.set_cons_succ])
  refine wpAnyH_ready (rs := [4]) (by kernel_rfl) (by simp) ?_
  refine AllReadyH.cons (o := { dst := some 11, op := Go.Op.call { callee := Go.Callee.value (Go.Operand.func 15), args := #[Go.Operand.tmp 10], argTypes := #[37] }, type := 24, pos := "ref.go:54", after := #[{ on := 3, ground := Go.Ground.data }, { on := 1, ground := Go.Ground.chain }], guard := none }) rfl (fun K hK => ?_) AllReadyH.nil
  go_simp
  (refine (rbytes_any y _ Hy.out).mono ?_; rintro e w4 ⟨A4, c4, rfl, -, -, ho4, hb4⟩; have HR4 := Lib.hid (ho4.rd (tuB_byte Hy.out)); have HB4 := Lib.hid (below_trans HB3.out hb4); have HR5 := Lib.hid (HR3.out.below hb4); clear ho4 hb4)
  refine hK.out _ _ ?_ (fun hHeld => ?_)
  · exact ⟨HK.out _ HB4.out, HR5.out⟩
  clear hK K
  (try simp only [Act.put, List.setIfInBounds_toArray, List.set_cons_zero, List.set_cons_succ])
  refine anyH_mono (S' := fun w' => ((w'.heap[z]? = some (.cells #[.int .u8 x.pr, .int .u32 x.sr, .int .u32 x.ds, .int .u16 x.sp, .int .u16 x.dp] 37 (0, 0)) ∧ w'.heap[z + 1]? = some (.cells #[.int .u8 y.pr, .int .u32 y.sr, .int .u32 y.ds, .int .u16 y.sp, .int .u16 y.dp] 37 (0, 0))) ∧ Rd w' A3 13 (tuB x)) ∧ Rd w' A4 13 (tuB y)) (fun _ h => h.1) _ _ _ _ ?_
  have hHeld := And.intro hHeld HR4.out
  refine wpAnyH_take (i := 5) (oi := { dst := some 12, op := Go.Op.convert 24 9 (Go.Operand.tmp 11), type := 9, pos := "ref.go:54", after := #[{ on := 4, ground := Go.Ground.data }, { on := 6, ground := Go.Ground.gcOnly Go.Departure.lateStores }], guard := none }) (v := .string (strOfNums (tuB y))) rfl (by kernel_rfl) (by kernel_rfl) (by kernel_rfl) (fun _ _ _ h => h) (Or.inl ⟨by rfl, ?_⟩) (by assumption) ?_
  · intro w' hSw; have hcv := conv_rd hSw.2 c4; (go_simp <;> (with_reducible rfl))
  (try simp only [Act.put, List.setIfInBounds_toArray, List.set_cons_zero, List.set_cons_succ])
  refine wpAnyH_take (i := 6) (oi := { dst := some 5, op := Go.Op.assign (Go.Operand.tmp 9), type := 9, pos := "ref.go:54", after := #[{ on := 2, ground := Go.Ground.data }, { on := 4, ground := Go.Ground.chain }, { on := 0, ground := Go.Ground.phase }, { on := 1, ground := Go.Ground.phase }, { on := 2, ground := Go.Ground.phase }, { on := 3, ground := Go.Ground.textOnly Go.Departure.lateStores }, { on := 4, ground := Go.Ground.textOnly Go.Departure.lateStoresUnsure }, { on := 5, ground := Go.Ground.textOnly Go.Departure.lateStores }], guard := none }) (v := ?_) rfl (by kernel_rfl) (by kernel_rfl) (by kernel_rfl) (fun _ _ _ h => h) (Or.inl ⟨by rfl, ?_⟩) (by assumption) ?_
  rotate_left 1
  · intro w' hSw; (go_simp <;> (with_reducible rfl))
  (try simp only [Act.put, List.setIfInBounds_toArray, List.set_cons_zero, List.set_cons_succ])
  refine wpAnyH_take (i := 7) (oi := { dst := some 6, op := Go.Op.assign (Go.Operand.tmp 12), type := 9, pos := "ref.go:54", after := #[{ on := 5, ground := Go.Ground.data }, { on := 6, ground := Go.Ground.chain }, { on := 0, ground := Go.Ground.phase }, { on := 1, ground := Go.Ground.phase }, { on := 2, ground := Go.Ground.phase }, { on := 3, ground := Go.Ground.phase }, { on := 4, ground := Go.Ground.phase }, { on := 5, ground := Go.Ground.phase }, { on := 6, ground := Go.Ground.phase }], guard := none }) (v := ?_) rfl (by kernel_rfl) (by kernel_rfl) (by kernel_rfl) (fun _ _ _ h => h) (Or.inl ⟨by rfl, ?_⟩) (by assumption) ?_
  rotate_left 1
  · intro w' hSw; (go_simp <;> (with_reducible rfl))
  (try simp only [Act.put, List.setIfInBounds_toArray, List.set_cons_zero, List.set_cons_succ])
  refine wpAnyH_done (by kernel_rfl) ?_ _
  clear hHeld
  have HB5 := Lib.hid (below_trans (below_trans Hb0.out Hd.out) HB4.out)
  have hless := tu_less Hx.out Hy.out
  have hseq := tu_seq Hx.out Hy.out
  have hz := cmpT_zero x y
  have hbd := cmpT_bd x y
  rw [Hc.out] at hless hz hbd
  rcases hbd with rfl | rfl | rfl
  · rw [show decide ((-1 : Int) < 0) = true from rfl] at hless
    clear hseq hz
    go_wp2_with fail
    go_ret
    exact ⟨rfl, HB5.out⟩
  · rw [show decide ((0 : Int) < 0) = false from rfl] at hless
    rw [show tuSame x y = true from (tuSame_iff x y).2 (hz.1 rfl)] at hseq
    clear hz
    go_wp2_with fail
    go_ret
    exact ⟨rfl, HB5.out⟩
  · rw [show decide ((1 : Int) < 0) = false from rfl] at hless
    rw [show tuSame x y = false by rw [Bool.eq_false_iff]; exact fun h => by have := hz.2 ((tuSame_iff x y).1 h); omega] at hseq
    clear hz
    go_wp2_with fail
    go_ret
    exact ⟨rfl, HB5.out⟩
end Go.Proofs.Ythhgdmdobfjipaa
