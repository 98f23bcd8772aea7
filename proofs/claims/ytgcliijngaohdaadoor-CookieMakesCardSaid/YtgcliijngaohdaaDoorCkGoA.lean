/-
  The program's own cookies: mixing, what is absorbed, the hash, its mark.
-/
import Derived.Test.YtgcliijngaohdaaDoorCkFace
import Derived.Laws.BitsAllLaws
namespace Go.Proofs.YtgcliijngaohdaaDoor
set_option maxRecDepth 10000
open Go.RowKit
set_option linter.unusedSimpArgs false
set_option linter.unusedVariables false

set_option maxHeartbeats 1000000 in
theorem mix17_any (x y : Int) (w : World) (hx : U64C x) (hy : mixC x = y) :
    Calls Tryd.prog 27 #[.int .u64 x] w (TellsC (.int .u64 y) w) := by
  obtain ⟨a, ha⟩ : ∃ a, bits .xor .u64 x (x / 1073741824) = a := ⟨_, rfl⟩
  obtain ⟨b, hb⟩ : ∃ b, IntKind.u64.wrap (a * 13787848793156543929) = b := ⟨_, rfl⟩
  obtain ⟨c, hc⟩ : ∃ c, bits .xor .u64 b (b / 134217728) = c := ⟨_, rfl⟩
  obtain ⟨d, hd⟩ : ∃ d, IntKind.u64.wrap (c * 10723151780598845931) = d := ⟨_, rfl⟩
  have hf : bits .xor .u64 d (d / 2147483648) = y := by
    rw [← hy, ← hd, ← hc, ← hb, ← ha]
    rfl
  clear hx hy
  go_enter Tryd.func27, Tryd.ntmps27
  go_wp2_with fail
  go_ret
  exact ⟨rfl, Below.refl _ _⟩

set_option maxHeartbeats 1000000 in
theorem absorb17_any (n : Nat) (xs rg : Nat → Int) (g : Nat) (w : World) (hg : g < w.heap.size) (hn : n ≤ 1000) (hc : ∀ j, j < n → w.cell? ⟨g, j, none⟩ = some (.int .u64 (xs j)))
    (hr : ∀ j, j < n → U64C (bits .xor .u64 (rg j) (xs j)) ∧ mixC (bits .xor .u64 (rg j) (xs j)) = rg (j + 1)) :
    Calls Tryd.prog 23 #[.int .u64 (rg 0), .slice (some ⟨g, 0, none⟩) n n] w (TellsC (.int .u64 (rg n)) w) := by
  have Hc := Lib.hid hc
  have Hr := Lib.hid hr
  have Hg := Lib.hid hg
  have Hn := Lib.hid hn
  clear hc hr hg hn
  go_enter Tryd.func23, Tryd.ntmps23
  go_wp2_with fail
  go_loopg [0, 6, 9] n (fun gk x0 x6 x9 wr => ∃ j : Nat, Hid (gk + j = n) ∧ x0 = .int .u64 (rg j) ∧ x9 = .int .i64 (j : Int) ∧ Hid (Below w.heap.size w wr))
  case atStart => exact ⟨0, Lib.hid (by omega), rfl, rfl, Lib.hid (Below.refl _ _)⟩
  case round =>
    obtain ⟨j, hj, rfl, rfl, hb⟩ := hrel
    by_cases hjn : j < n
    · have hlt : ((j : Int) < (n : Int)) := by omega
      have h0 : (0 : Int) ≤ (j : Int) := by omega
      have hc := (hb.out.cell (p := ⟨g, j, none⟩) Hg.out).trans (Hc.out j hjn)
      obtain ⟨hu, hm⟩ := Hr.out j hjn
      have Hm := Lib.hid (And.intro hu hm)
      have hw : wrap64 ((j : Int) + 1) = (j : Int) + 1 := IntWalk.wrap64_in _ (by have := Hn.out; omega)
      have Hj := Lib.hid hjn
      clear hu hm hjn
      go_wp2_with fail
      refine (mix17_any _ _ _ Hm.out.1 Hm.out.2).mono ?_
      rintro e w1 ⟨rfl, hb1⟩
      have Hb := Lib.hid (below_trans hb.out hb1)
      clear hb1
      go_wp2_with fail
      go_roundg (n - (j + 1))
      case measure => have := Hj.out; have := hj.out; omega
      case rel => exact ⟨j + 1, Lib.hid (by have := Hj.out; omega), rfl, by rw [hw]; rfl, Hb⟩
    · obtain rfl : j = n := by have := hj.out; omega
      have hlt : ¬ ((j : Int) < (j : Int)) := by omega
      go_wp2_with fail
      go_ret
      exact ⟨rfl, hb.out⟩
theorem wraps_u64C (n : Int) (h₀ : 0 ≤ n) (h₁ : n < 2 ^ 64) : IntKind.u64.wrap n = n := by rw [IntKind.wrap_u64]; omega
theorem wraps_u32C (n : Int) (h₀ : 0 ≤ n) (h₁ : n < 2 ^ 32) : IntKind.u32.wrap n = n := by rw [IntKind.wrap_u32]; omega
set_option maxHeartbeats 1000000 in
theorem hashf17 : HashF17 := by
  intro key t cl ep y w hk ht hc he hy
  obtain ⟨z, hz⟩ : ∃ z, w.heap.size = z := ⟨_, rfl⟩
  obtain ⟨w0, ew⟩ : ∃ v, w.alloc (.cells #[.int .u8 t.pr, .int .u32 t.sr, .int .u32 t.ds, .int .u16 t.sp, .int .u16 t.dp] 26) = v := ⟨_, rfl⟩
  have hb0 : Below w.heap.size w w0 := by rw [← ew]; exact (Below.refl _ _).alloc (Nat.le_refl _) _
  have hk0 : w0.heap[z]? = some (.cells #[.int .u8 t.pr, .int .u32 t.sr, .int .u32 t.ds, .int .u16 t.sp, .int .u16 t.dp] 26 (0, 0)) := by rw [← ew, ← hz]; exact heap_alloc_new w _
  have n1 := ht.pr; have n2 := ht.sr; have n3 := ht.ds; have n4 := ht.sp; have n5 := ht.dp
  obtain ⟨x1, e1⟩ : ∃ x, t.sr * 4294967296 + t.ds = x := ⟨_, rfl⟩
  obtain ⟨x2, e2⟩ : ∃ x, t.sp * 65536 + t.dp = x := ⟨_, rfl⟩
  have q1 : IntKind.u64.wrap (t.sr * 4294967296) = t.sr * 4294967296 := by rw [IntKind.wrap_u64]; omega
  have q2 : bits .or .u64 (t.sr * 4294967296) t.ds = x1 := (bits_join .u64 64 (by decide) wraps_u64C 32 (t.sr * 4294967296) t.ds (by omega) (by omega) (by omega) (by omega) (by omega) (by omega)).trans e1
  have q3 : IntKind.u64.wrap (t.sp * 65536) = t.sp * 65536 := by rw [IntKind.wrap_u64]; omega
  have q4 : bits .or .u64 (t.sp * 65536) t.dp = x2 := (bits_join .u64 64 (by decide) wraps_u64C 16 (t.sp * 65536) t.dp (by omega) (by omega) (by omega) (by omega) (by omega) (by omega)).trans e2
  have q5 : IntKind.u64.wrap t.sr = t.sr := by rw [IntKind.wrap_u64]; omega
  have q6 : IntKind.u64.wrap t.ds = t.ds := by rw [IntKind.wrap_u64]; omega
  have q7 : IntKind.u64.wrap t.sp = t.sp := by rw [IntKind.wrap_u64]; omega
  have q8 : IntKind.u64.wrap t.dp = t.dp := by rw [IntKind.wrap_u64]; omega
  have q9 : IntKind.u64.wrap t.pr = t.pr := by rw [IntKind.wrap_u64]; omega
  have q10 : IntKind.u64.wrap cl = cl := by rw [IntKind.wrap_u64]; omega
  have k0 : w0.cell? ⟨z, 0, none⟩ = some (.int .u8 t.pr) := by rw [blk_cell hk0]; rfl
  have k1 : w0.cell? ⟨z, 1, none⟩ = some (.int .u32 t.sr) := by rw [blk_cell hk0]; rfl
  have k2 : w0.cell? ⟨z, 2, none⟩ = some (.int .u32 t.ds) := by rw [blk_cell hk0]; rfl
  have k3 : w0.cell? ⟨z, 3, none⟩ = some (.int .u16 t.sp) := by rw [blk_cell hk0]; rfl
  have k4 : w0.cell? ⟨z, 4, none⟩ = some (.int .u16 t.dp) := by rw [blk_cell hk0]; rfl
  -- what is absorbed, and the register
  obtain ⟨w1, ew1⟩ : ∃ v, w0.alloc (.cells #[.int .u64 t.pr, .int .u64 x1, .int .u64 x2, .int .u64 cl, .int .u64 ep] 22) = v := ⟨_, rfl⟩
  obtain ⟨z1, hz1⟩ : ∃ z, w0.heap.size = z := ⟨_, rfl⟩
  have hb1 : Below w0.heap.size w0 w1 := by rw [← ew1]; exact (Below.refl _ _).alloc (Nat.le_refl _) _
  have hk1 : w1.heap[z1]? = some (.cells #[.int .u64 t.pr, .int .u64 x1, .int .u64 x2, .int .u64 cl, .int .u64 ep] 22 (0, 0)) := by rw [← ew1, ← hz1]; exact heap_alloc_new w0 _
  have HA := Lib.hid (show Calls Tryd.prog 23 #[.int .u64 key, .slice (some ⟨z1, 0, none⟩) 5 5] w1 (TellsC (.int .u64 y) w1) from by
    have b1 := mixC_bd (bits .xor .u64 key t.pr)
    have b2 := mixC_bd (bits .xor .u64 (hash1 key t) x1)
    have b3 := mixC_bd (bits .xor .u64 (hash2 key t) x2)
    have b4 := mixC_bd (bits .xor .u64 (hash3 key t) cl)
    have h := absorb17_any 5 (fun j => [t.pr, x1, x2, cl, ep].getD j 0) (fun j => [key, hash1 key t, hash2 key t, hash3 key t, hash4 key t cl, y].getD j 0) z1 w1 (lt_of_block hk1) (by decide)
      (fun j hj => by
        have hj5 : j = 0 ∨ j = 1 ∨ j = 2 ∨ j = 3 ∨ j = 4 := by omega
        rcases hj5 with rfl | rfl | rfl | rfl | rfl <;> (rw [blk_cell hk1]; rfl))
      (fun j hj => by
        have hj5 : j = 0 ∨ j = 1 ∨ j = 2 ∨ j = 3 ∨ j = 4 := by omega
        rcases hj5 with rfl | rfl | rfl | rfl | rfl
        · show U64C (bits .xor .u64 key t.pr) ∧ mixC (bits .xor .u64 key t.pr) = (hash1 key t)
          exact ⟨xorC_bd hk ⟨by omega, by omega⟩, rfl⟩
        · show U64C (bits .xor .u64 (hash1 key t) x1) ∧ mixC (bits .xor .u64 (hash1 key t) x1) = (hash2 key t)
          exact ⟨xorC_bd b1 ⟨by omega, by omega⟩, by rw [← e1]; rfl⟩
        · show U64C (bits .xor .u64 (hash2 key t) x2) ∧ mixC (bits .xor .u64 (hash2 key t) x2) = (hash3 key t)
          exact ⟨xorC_bd (by rw [← e1] at b2; exact b2) ⟨by omega, by omega⟩, by rw [← e2]; rfl⟩
        · show U64C (bits .xor .u64 (hash3 key t) cl) ∧ mixC (bits .xor .u64 (hash3 key t) cl) = (hash4 key t cl)
          exact ⟨xorC_bd (by rw [← e2] at b3; exact b3) ⟨by omega, by omega⟩, rfl⟩
        · show U64C (bits .xor .u64 (hash4 key t cl) ep) ∧ mixC (bits .xor .u64 (hash4 key t cl) ep) = y
          exact ⟨xorC_bd b4 he, hy⟩)
    exact h)
  have Ew := Lib.hid ew
  have Hz := Lib.hid hz
  have Ew1 := Lib.hid ew1
  have Hz1 := Lib.hid hz1
  have HB := Lib.hid (below_trans hb0 hb1)
  clear n1 n2 n3 n4 n5 e1 e2 hk ht hc he hy ew hz hk0 hb0 ew1 hz1 hb1 hk1
  go_enter Tryd.func16, Tryd.ntmps16
  go_upto_region 1 with (fail)
  rw [Ew.out]
  try rw [Hz.out]
  go_wp2_with fail
  rw [Ew1.out, Hz1.out]
  refine HA.out.mono ?_
  rintro e w2 ⟨rfl, hb⟩
  have HB2 := Lib.hid (below_trans HB.out hb)
  clear hb
  go_wp2_with fail
  go_ret
  exact ⟨rfl, HB2.out⟩
/-- The bits of a hash that a cookie has. -/
theorem mark_bits (h : Int) (hh : U64C h) : IntKind.u32.wrap (h / 4294967296) = h / 4294967296 ∧ bits .andNot .u32 (h / 4294967296) 255 = h / 1099511627776 * 256 := by
  unfold U64C at hh
  refine ⟨by rw [IntKind.wrap_u32]; omega, ?_⟩
  rw [u32_andNot (h / 4294967296) 255 (by omega) (by omega) (by decide) (by decide)]
  obtain ⟨a, ea⟩ : ∃ a, (h / 4294967296).toNat = a := ⟨_, rfl⟩
  have h1 : (a &&& 4294967040) / 2 ^ 8 = a / 2 ^ 8 := by
    rw [Nat.and_div_two_pow, show 4294967040 / 2 ^ 8 = 2 ^ 24 - 1 by decide, Nat.and_two_pow_sub_one_eq_mod]
    exact Nat.mod_eq_of_lt (by omega)
  have h2 : (a &&& 4294967040) % 2 ^ 8 = 0 := by rw [Nat.and_mod_two_pow]; simp
  have := Nat.div_add_mod (a &&& 4294967040) (2 ^ 8)
  rw [h1, h2] at this
  rw [ea, show (4294967295 - Int.toNat 255 : Nat) = 4294967040 by decide]
  omega
theorem mark17_any (h m : Int) (w : World) (hh : U64C h) (hm : h / 1099511627776 * 256 = m) :
    Calls Tryd.prog 21 #[.int .u64 h] w (TellsC (.int .u32 m) w) := by
  obtain ⟨q1, q2⟩ := mark_bits h hh
  rw [hm] at q2
  have q3 : Int.tdiv h 4294967296 = h / 4294967296 := Int.tdiv_eq_ediv_of_nonneg hh.1
  have q4 : IntKind.u64.wrap (h / 4294967296) = h / 4294967296 := by rw [IntKind.wrap_u64]; unfold U64C at hh; omega
  clear hm hh
  go_enter Tryd.func21, Tryd.ntmps21
  go_wp2_with fail
  go_ret
  exact ⟨rfl, Below.refl _ _⟩
end Go.Proofs.YtgcliijngaohdaaDoor
