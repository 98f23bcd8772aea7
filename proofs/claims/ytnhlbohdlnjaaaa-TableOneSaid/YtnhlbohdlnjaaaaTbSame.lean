/-
  culvertlaw13's same over two rows of one list of flows; a flow against itself.
-/
import Derived.Test.YtnhlbohdlnjaaaaTbRef5
import Derived.Test.YtnhlbohdlnjaaaaTbZ
namespace Go.Proofs.Ytnhlbohdlnjaaaa
set_option maxRecDepth 10000
open Go.RowKit
set_option linter.unusedSimpArgs false
set_option linter.unusedVariables false

theorem fl_self (f : Fl) (w : World) : (binOp .neq 51 (.agg #[.int .u64 f.id, .int .u8 f.i.pr, .int .u32 f.i.sr, .int .u32 f.i.ds, .int .u16 f.i.sp, .int .u16 f.i.dp, .int .u8 f.o.pr, .int .u32 f.o.sr, .int .u32 f.o.ds, .int .u16 f.o.sp, .int .u16 f.o.dp, .bool f.em]) (.agg #[.int .u64 f.id, .int .u8 f.i.pr, .int .u32 f.i.sr, .int .u32 f.i.ds, .int .u16 f.i.sp, .int .u16 f.i.dp, .int .u8 f.o.pr, .int .u32 f.o.sr, .int .u32 f.o.ds, .int .u16 f.o.sp, .int .u16 f.o.dp, .bool f.em])).run Try.prog w = .ok (.bool false) w := by
  rw [run_neq_struct, run_equalIn_struct w 9999 51 _ _ (by kernel_rfl) (by kernel_rfl)]
  obtain ⟨i, ⟨a, b, c, d, e⟩, ⟨a', b', c', d', e'⟩, em⟩ := f
  go_simp
set_option maxHeartbeats 1000000 in
theorem same13_any (A A2 : Option Addr) (n c c2 : Nat) (L : TL) (w : World) (h : SlV w 51 12 (.slice A n c) n (flatF L)) (h2 : SlV w 54 12 (.slice A2 n c2) n (flatF L)) (hn : L.length = n) (hl : n ≤ 1000000) :
    Calls Try.prog 29 #[.slice A n c, .slice A2 n c2] w (QuietT (.bool true) w) := by
  have HA := Lib.hid h
  have HA2 := Lib.hid h2
  have Hn := Lib.hid hn
  have hfs := fl_self
  clear h h2 hn
  have hq : ((n : Int) != (n : Int)) = false := by simp
  go_enter Try.func29, Try.ntmps29
  go_wp2_with fail
  go_loopg [13] n (fun gk i wr => ∃ j k : Nat, Hid (gk + j = n) ∧ j ≤ n ∧ i = .int .i64 (j : Int) ∧ wr = w.drewN k)
  case atStart => exact ⟨0, 0, rfl, Nat.zero_le _, rfl, rfl⟩
  case round =>
    obtain ⟨j, k, hgk, hj, rfl, rfl⟩ := hrel
    by_cases hjn : j < n
    · obtain ⟨g, o, rfl, hidx, hfl, hlt⟩ := fl_index_t HA.out Hn.out hjn
      obtain ⟨g2, o2, rfl, hidx2, hfl2, hlt2⟩ := fl_index_r HA2.out Hn.out hjn
      obtain ⟨p, ep⟩ : ∃ p, o + j * 12 = p := ⟨_, rfl⟩
      obtain ⟨p2, ep2⟩ : ∃ p, o2 + j * 12 = p := ⟨_, rfl⟩
      obtain ⟨f, ef⟩ : ∃ f, L.getD j f0 = f := ⟨_, rfl⟩
      rw [ep] at hidx hfl
      rw [ep2] at hidx2 hfl2
      rw [ef] at hfl hfl2
      have hf1 := hfs f
      obtain ⟨c0, c1, c2', c3, c4, c5, c6, c7, c8, c9, ca, cb⟩ := hfl
      obtain ⟨d0, d1, d2, d3, d4, d5, d6, d7, d8, d9, da, db⟩ := hfl2
      have i0 : (0 : Int) ≤ (j : Int) := by omega
      have i1 : (j : Int) < (n : Int) := by omega
      clear ef ep ep2 hfs
      go_wp2_with fail
      go_quiet (fail)
      go_wp2_with fail
      go_roundg (gk - 1)
      case measure => have := hgk.out; omega
      case rel => exact ⟨j + 1, k + nq, by have := hgk.out; show gk - 1 + (j + 1) = _; omega, by omega, by go_num, by first | rfl | rw [World.drewN_drewN]⟩
    · obtain rfl : n = j := by omega
      go_wp2_with fail
      go_ret
      exact ⟨rfl, k, rfl⟩
end Go.Proofs.Ytnhlbohdlnjaaaa
