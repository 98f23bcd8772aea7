/-
  The contracts of package wheel's At, Now, Len, Next.
-/
import Derived.Test.YtlpgabbnldalhaaWhlNew
namespace Go.Proofs.Ytlpgabbnldalhaa
set_option maxRecDepth 10000
open Go.RowKit
set_option linter.unusedSimpArgs false
set_option linter.unusedVariables false

section
variable (S : Nat → Prop) (g m : Nat) (C : Array Value) (hs : Nat → Value) (ck : Int) (sl : Nat → AL) (K : Int → Prop) (R : Int → Value) (w : World) (h : WMem w S g m C hs ck sl K R)
include h
theorem now_just : Calls Try.prog 21 #[.pointer (some ⟨g, 0, none⟩)] w (JustIs (.int .u64 ck) w) := by
  have Hno := Lib.hid (wnone_no g w h.k0)
  have k1 := h.k1
  clear h
  go_enter Try.func21, Try.ntmps21
  go_wp2_with fail
  refine Hno.out.mono ?_
  rintro e w1 ⟨rfl, rfl⟩
  go_wp2_with fail
  go_ret
  exact ⟨rfl, rfl⟩
theorem len_just (l : List Int) (hl : l.Nodup) (hK : ∀ e, K e ↔ e ∈ l) : Calls Try.prog 22 #[.pointer (some ⟨g, 0, none⟩)] w (JustIs (.int .i64 (l.length : Nat)) w) := by
  have Hno := Lib.hid (wnone_no g w h.k0)
  have k2 := h.k2
  have hlen := fun ty => h.map.len_u l hl hK ty
  clear h hK
  go_enter Try.func22, Try.ntmps22
  go_wp2_with fail
  refine Hno.out.mono ?_
  rintro e w1 ⟨rfl, rfl⟩
  go_wp2_with fail
  go_ret
  exact ⟨rfl, rfl⟩
theorem at_yes (id at_ : Int) (hK : K id) (hR : R id = .int .u64 at_) : Calls Try.prog 19 #[.pointer (some ⟨g, 0, none⟩), .int .u64 id] w (JustIs (.tuple #[.int .u64 at_, .bool true]) w) := by
  have Hno := Lib.hid (wnone_no g w h.k0)
  have k2 := h.k2
  have hl := h.map.lookok_u hK
  rw [hR] at hl
  clear h hK hR
  go_enter Try.func19, Try.ntmps19
  go_wp2_with fail
  refine Hno.out.mono ?_
  rintro e w1 ⟨rfl, rfl⟩
  go_wp2_with fail
  go_ret2
  exact ⟨rfl, rfl⟩
theorem at_no (id : Int) (hK : ¬ K id) : Calls Try.prog 19 #[.pointer (some ⟨g, 0, none⟩), .int .u64 id] w (JustIs (.tuple #[.int .u64 0, .bool false]) w) := by
  have Hno := Lib.hid (wnone_no g w h.k0)
  have k2 := h.k2
  have hl := h.map.lookno_u hK
  clear h hK
  go_enter Try.func19, Try.ntmps19
  go_wp2_with fail
  refine Hno.out.mono ?_
  rintro e w1 ⟨rfl, rfl⟩
  go_wp2_with fail
  go_ret2
  exact ⟨rfl, rfl⟩
end
/-- The least of the first instants. -/
def firstW (M : AL) (x : Int) : Int := match M with | [] => x | a :: _ => if a.2 < x then a.2 else x
def leastW (sl : Nat → AL) : Nat → Int → Int
  | 0, x => x
  | n + 1, x => firstW (sl n) (leastW sl n x)
theorem next_none (S : Nat → Prop) (g m : Nat) (C : Array Value) (hs : Nat → Value) (ck : Int) (sl : Nat → AL) (K : Int → Prop) (R : Int → Value) (w : World) (h : WMem w S g m C hs ck sl K R) (hK : ∀ e, ¬ K e) :
    Calls Try.prog 17 #[.pointer (some ⟨g, 0, none⟩)] w (JustIs (.tuple #[.int .u64 0, .bool false]) w) := by
  have Hlen := Lib.hid (len_just S g m C hs ck sl K R w h [] .nil (fun e => ⟨fun x => absurd x (hK e), fun x => by cases x⟩))
  simp only [List.length_nil] at Hlen
  clear h hK
  go_enter Try.func17, Try.ntmps17
  go_wp2_with fail
  refine Hlen.out.mono ?_
  rintro e w1 ⟨rfl, rfl⟩
  go_wp2_with fail
  go_ret2
  exact ⟨rfl, rfl⟩
set_option maxHeartbeats 1000000 in
theorem next_some (S : Nat → Prop) (g m : Nat) (C : Array Value) (hs : Nat → Value) (ck : Int) (sl : Nat → AL) (K : Int → Prop) (R : Int → Value) (w : World) (h : WMem w S g m C hs ck sl K R) (l : List Int) (hl : l.Nodup) (hK : ∀ e, K e ↔ e ∈ l) (h0 : l ≠ []) (x : Int) (hx : leastW sl 64 1099511627776 = x) :
    Calls Try.prog 17 #[.pointer (some ⟨g, 0, none⟩)] w (JustIs (.tuple #[.int .u64 x, .bool true]) w) := by
  have Hlen := Lib.hid (len_just S g m C hs ck sl K R w h l hl hK)
  have hn0 : (((l.length : Nat) : Int) == 0) = false := by
    have : l.length ≠ 0 := fun e => h0 (List.eq_nil_of_length_eq_zero e)
    simpa using h0
  obtain ⟨n, en⟩ : ∃ n, l.length = n := ⟨_, rfl⟩
  rw [en] at Hlen hn0
  have H := Lib.hid h
  have Hx := Lib.hid hx
  clear h hl hK h0 en hx
  go_enter Try.func17, Try.ntmps17
  go_wp2_with fail
  refine Hlen.out.mono ?_
  rintro e w1 ⟨rfl, rfl⟩
  go_wp2_with fail
  go_loopg [4, 5, 6, 10] 64 (fun gk x4 x5 x6 x10 wr => ∃ j : Nat, Hid (gk + j = 64) ∧ j ≤ 64 ∧ x10 = .int .i64 (j : Int) ∧ x4 = .int .u64 (leastW sl j 1099511627776) ∧ w = wr)
  case atStart => exact ⟨0, rfl, Nat.zero_le _, rfl, rfl, rfl⟩
  case round =>
    obtain ⟨j, hgk, hj, rfl, rfl, rfl⟩ := hrel
    by_cases hjn : j < 64
    · have kj := H.out.kj hjn
      have hrow := H.out.row j hjn
      obtain ⟨A, c, ev⟩ := hrow.form
      rw [ev] at kj hrow
      obtain ⟨y, ey⟩ : ∃ y, leastW sl j 1099511627776 = y := ⟨_, rfl⟩
      rw [ey]
      have hj1 : (j : Int) < 64 := by omega
      have hj0 : (0 : Int) ≤ (j : Int) := by omega
      have hwr : IntKind.i64.wrap ((j : Int) + 1) = (j : Int) + 1 := by rw [IntKind.wrap_i64]; omega
      obtain ⟨M, eM⟩ : ∃ M, sl j = M := ⟨_, rfl⟩
      rw [eM] at kj hrow
      have hL : leastW sl (j + 1) 1099511627776 = firstW M y := by rw [← eM, ← ey]; rfl
      cases M with
      | nil =>
        have HL := Lib.hid (show leastW sl (j + 1) 1099511627776 = y from hL)
        clear hL hrow ev ey eM
        go_wp2_with fail
        go_roundg (gk - 1)
        case measure => have := hgk.out; omega
        case rel => exact ⟨j + 1, by have := hgk.out; show gk - 1 + (j + 1) = _; omega, by omega, by go_num, by rw [HL.out], rfl⟩
      | cons a M =>
        obtain ⟨g2, o, rfl, hidx, c0, c1, hg2⟩ := sal_index hrow rfl (j := 0) (by simp)
        simp only [List.getD_cons_zero, Nat.zero_mul, Nat.add_zero] at c0 c1 hidx
        have hidx2 : ∀ W : World, (Instr.indexAt 57 (.slice (some ⟨g2, o, none⟩) (a :: M).length c) (.int .i64 0)).run Try.prog W = .ok (.pointer (some ⟨g2, o, none⟩)) W := hidx
        by_cases hlt : a.2 < y
        · have HL := Lib.hid (show leastW sl (j + 1) 1099511627776 = a.2 from by rw [hL]; exact if_pos hlt)
          clear hL hrow ev ey eM hidx
          go_wp2_with fail
          go_roundg (gk - 1)
          case measure => have := hgk.out; omega
          case rel => exact ⟨j + 1, by have := hgk.out; show gk - 1 + (j + 1) = _; omega, by omega, by go_num, by rw [HL.out], rfl⟩
        · have HL := Lib.hid (show leastW sl (j + 1) 1099511627776 = y from by rw [hL]; exact if_neg hlt)
          clear hL hrow ev ey eM hidx
          go_wp2_with fail
          go_roundg (gk - 1)
          case measure => have := hgk.out; omega
          case rel => exact ⟨j + 1, by have := hgk.out; show gk - 1 + (j + 1) = _; omega, by omega, by go_num, by rw [HL.out], rfl⟩
    · obtain rfl : j = 64 := by omega
      go_wp2_with fail
      go_ret2
      exact ⟨by rw [Hx.out]; rfl, rfl⟩
end Go.Proofs.Ytlpgabbnldalhaa
