/-
  The contracts of package icmp's Echo, WithId, Exceeded, Same; of bytes.Clone of any slice.
-/
import Derived.Test.YthhgdmdobfjipaaIcmpSort
import Derived.Test.YthhgdmdobfjipaaIcmpRefRead
import Derived.Test.YthhgdmdobfjipaaBytesEq
import Derived.Test.YthhgdmdobfjipaaBits16
import Derived.RegionTactic
namespace Go.Proofs.Ythhgdmdobfjipaa
set_option maxRecDepth 10000
open Go.RowKit
set_option linter.unusedSimpArgs false
set_option linter.unusedVariables false

theorem echo8_any (ty cd rs : Int) (A : Option Addr) (n c : Nat) (w : World) (hr : 0 ≤ rs ∧ rs < 4294967296) :
    Calls Try.prog 29 #[.agg #[.int .u8 ty, .int .u8 cd, .int .u32 rs, .slice A n c]] w (EchoIs ty cd rs w) := by
  obtain ⟨z, hz⟩ : ∃ z, w.heap.size = z := ⟨_, rfl⟩
  have hb0 := (Below.refl w.heap.size w).alloc (Nat.le_refl _) (.cells #[.int .u8 ty, .int .u8 cd, .int .u32 rs, .slice A n c] 33)
  have hk := heap_alloc_new w (.cells #[.int .u8 ty, .int .u8 cd, .int .u32 rs, .slice A n c] 33)
  rw [hz] at hk
  obtain ⟨x, ex⟩ : ∃ x, sortM ty cd = x := ⟨_, rfl⟩
  have Hs := Lib.hid (fun W => sort8_any ty cd rs A n c x W ex)
  have Hb := Lib.hid hb0
  have Hk := Lib.hid hk
  have hse := sort_echo ty cd
  rw [ex] at hse
  have hq1 : IntKind.u16.wrap (rs / 65536) = rs / 65536 := by (simp [IntKind.wrap, IntKind.bits, IntKind.signed] <;> omega)
  have hq2 : IntKind.u16.wrap rs = rs % 65536 := by (simp [IntKind.wrap, IntKind.bits, IntKind.signed] <;> omega)
  have hq5 : IntKind.u32.wrap (rs / 65536) = rs / 65536 := by (simp [IntKind.wrap, IntKind.bits, IntKind.signed] <;> omega)
  clear hb0 hk ex
  have Hr := Lib.hid hr
  rcases hse with ⟨he, hx⟩ | ⟨he, hx⟩
  · have He := Lib.hid he
    clear he
    rcases hx with rfl | rfl
    ·
      go_enter Try.func29, Try.ntmps29
      go_wp2_with fail
      refine (Hs.out _).mono ?_
      rintro e w1 ⟨rfl, hb1⟩
      have hk1 := blk_on Hk.out hb1
      obtain ⟨c0, c1, c2, c3⟩ := cells4 hk1
      have Hb1 := Lib.hid (below_trans Hb.out hb1)
      clear hb1 hk1
      go_wp2_with fail
      go_region
      go_wp2_with fail
      refine bodyPost_ret (v := .tuple #[.int .u16 (rs / 65536), .int .u16 (rs % 65536), .bool true]) (by simp [results, Try.results29, go_sem]) rfl ?_
      exact ⟨by rw [if_pos He.out], Hb1.out.drew⟩
    ·
      go_enter Try.func29, Try.ntmps29
      go_wp2_with fail
      refine (Hs.out _).mono ?_
      rintro e w1 ⟨rfl, hb1⟩
      have hk1 := blk_on Hk.out hb1
      obtain ⟨c0, c1, c2, c3⟩ := cells4 hk1
      have Hb1 := Lib.hid (below_trans Hb.out hb1)
      clear hb1 hk1
      go_wp2_with fail
      go_region
      go_wp2_with fail
      refine bodyPost_ret (v := .tuple #[.int .u16 (rs / 65536), .int .u16 (rs % 65536), .bool true]) (by simp [results, Try.results29, go_sem]) rfl ?_
      exact ⟨by rw [if_pos He.out], Hb1.out.drew⟩
  · have He := Lib.hid (show ¬ echoM ty cd = true by rw [he]; simp)
    clear he hr
    rcases hx with rfl | rfl
    ·
      go_enter Try.func29, Try.ntmps29
      go_wp2_with fail
      refine (Hs.out _).mono ?_
      rintro e w1 ⟨rfl, hb1⟩
      have Hb1 := Lib.hid (below_trans Hb.out hb1)
      clear hb1
      go_wp2_with fail
      refine bodyPost_ret (v := .tuple #[.int .u16 0, .int .u16 0, .bool false]) (by simp [results, Try.results29, go_sem]) rfl ?_
      exact ⟨by rw [if_neg He.out], Hb1.out⟩
    ·
      go_enter Try.func29, Try.ntmps29
      go_wp2_with fail
      refine (Hs.out _).mono ?_
      rintro e w1 ⟨rfl, hb1⟩
      have Hb1 := Lib.hid (below_trans Hb.out hb1)
      clear hb1
      go_wp2_with fail
      refine bodyPost_ret (v := .tuple #[.int .u16 0, .int .u16 0, .bool false]) (by simp [results, Try.results29, go_sem]) rfl ?_
      exact ⟨by rw [if_neg He.out], Hb1.out⟩

def WithOwn (s : Msg) (id : Int) (n : Nat) (w : World) (e : Ending) (w' : World) : Prop :=
  ∃ A' c', e = .returned (.agg #[.int .u8 (withM s id).ty, .int .u8 (withM s id).cd, .int .u32 (withM s id).rs, .slice A' n c']) ∧ n ≤ c' ∧ c' ≤ maxLen ∧ OwnB w' w.heap.size A' n c' s.d ∧ Below w.heap.size w w'
theorem or32h (x y : Int) (hx : 0 ≤ x ∧ x < 65536) (hy : 0 ≤ y ∧ y < 65536) : bits .or .u32 (x * 65536) y = x * 65536 + y :=
  bits_join .u32 32 (by decide) wraps_u32 16 (x * 65536) y (by omega) (by omega) (by omega) (by omega) (by omega) (by omega)
end Go.Proofs.Ythhgdmdobfjipaa
