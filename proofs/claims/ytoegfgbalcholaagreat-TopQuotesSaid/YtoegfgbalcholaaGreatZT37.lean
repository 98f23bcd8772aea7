/-
  Texts laid together: TqAl, TqLike, NatFld.
-/
import Derived.Test.YtoegfgbalcholaaGreatZT35
import Derived.Test.YtoegfgbalcholaaGreatZT07
import Derived.Test.YtoegfgbalcholaaGreatZT01
import Derived.Test.YtoegfgbalcholaaGreatZT06
import Derived.Test.YtoegfgbalcholaaGreatZT36
import Derived.Deep.QuietTactic
import Derived.BigQuiet
import Derived.Deep.CutRange
import Derived.Deep.DeepCutAuto
import Derived.Deep.RegionHeld3

/-
  culverttop's place and alike (TopQuotes).
-/
namespace Go.Proofs.YtoegfgbalcholaaGreat
set_option maxRecDepth 10000
open Go.RowKit
set_option linter.unusedSimpArgs false
set_option linter.unusedVariables false

/-- A word of the bytes. -/
theorem aword_any (A : Option Addr) (m c : Nat) (l : List Int) (a x : Int) (K : Nat) (w : World) (hm : m ≤ 140737488355328) (ha : a = 2 * (K : Int)) (hK : 2 * K + 1 < m) (h : Rd w A m l) (hx : wordL l K = x) :
    Calls Tryz.prog 35 #[.slice A m c, .int .i64 a] w (SumIs x w) := by
  subst ha
  obtain ⟨b, o, rfl, hb, hc⟩ := h.at_ (by omega)
  have hc1 := hc (2 * K) (by omega)
  have hc2 := hc (2 * K + 1) (by omega)
  have hx1 := getD_byte h.byte (2 * K)
  have hy := getD_byte h.byte (2 * K + 1)
  obtain ⟨x1, ex⟩ : ∃ x, l.getD (2 * K) 0 = x := ⟨_, rfl⟩
  obtain ⟨y, ey⟩ : ∃ y, l.getD (2 * K + 1) 0 = y := ⟨_, rfl⟩
  have Hw := Lib.hid (show x = x1 * 256 + y by rw [← hx]; unfold wordL; rw [ex, ey])
  rw [ex] at hc1 hx1
  rw [ey] at hc2 hy
  have hor := or16 x1 y hx1 hy
  have hi1 : 2 * (K : Int) + 1 < (m : Int) := by omega
  have hi0 : 2 * (K : Int) < (m : Int) := by omega
  have hk0 : 0 ≤ 2 * (K : Int) := by omega
  obtain ⟨hx0, hx1'⟩ := id hx1
  obtain ⟨hy0, hy1⟩ := id hy
  have hmi : (m : Int) ≤ 140737488355328 := by omega
  have hbnd : 2 * (K : Int) + 1 ≤ 140737488355328 := by omega
  have hw2 : IntKind.i64.wrap (2 * (K : Int) + 1) = 2 * (K : Int) + 1 := IntWalk.i64_in _ (by omega)
  have hc2 : w.cell? ⟨b, o + (2 * (K : Int) + 1).toNat, none⟩ = some (.int .u8 y) := by rw [show (2 * (K : Int) + 1).toNat = 2 * K + 1 by omega]; exact hc2
  have hc1 : w.cell? ⟨b, o + (2 * (K : Int)).toNat, none⟩ = some (.int .u8 x1) := by rw [show (2 * (K : Int)).toNat = 2 * K by omega]; exact hc1
  clear h hc ex ey hx1 hy hx hK hm
  go_enter Tryz.func35, Tryz.ntmps35
  go_wp2_with fail
  go_quiet (fail)
  go_wp2_with fail
  go_ret
  exact ⟨ret_int Hw.out.symm, rfl, rfl, rfl, Nat.le_refl _, fun _ _ => rfl⟩


theorem info_ai : (Tryz.prog.info? 3).map (fun i => (i.size, i.zero)) = some (1, some (.int .i64 0)) := by kernel_rfl
theorem idx2_0 (a b : Value) (w : World) :
    (Instr.index 95 (.agg #[a, b]) (.int .i64 0)).run Tryz.prog w = .ok a w := by
  have h := info_ai
  cases hi : Tryz.prog.info? 3 with
  | none => rw [hi] at h; simp at h
  | some i =>
    rw [hi] at h
    simp at h
    simp [Instr.index, run_underlying Tryz.underlying95, part, isAgg, run_underlying Tryz.underlying3, sizeOf, typeInfo, hi, h, Result.andThen, go_sem]
theorem idx2_1 (a b : Value) (w : World) :
    (Instr.index 95 (.agg #[a, b]) (.int .i64 1)).run Tryz.prog w = .ok b w := by
  have h := info_ai
  cases hi : Tryz.prog.info? 3 with
  | none => rw [hi] at h; simp at h
  | some i =>
    rw [hi] at h
    simp at h
    simp [Instr.index, run_underlying Tryz.underlying95, part, isAgg, run_underlying Tryz.underlying3, sizeOf, typeInfo, hi, h, Result.andThen, go_sem]
def IntIsT (x : Int) (w : World) (e : Ending) (w' : World) : Prop := e = .returned (.int .i64 x) ∧ Below w.heap.size w w'
set_option maxHeartbeats 1000000 in
theorem place16_any (A : Option Addr) (n c : Nat) (b : List Int) (pr H2 x : Int) (w : World) (hA : Rd w A n b) (hn : 10 ≤ n) (h0 : b.getD 0 0 % 16 * 4 = H2) (h9 : b.getD 9 0 = pr) (hp : pr = 6 ∨ pr = 17 ∨ pr = 1) (hx : H2 + behQ pr = x) :
    Calls Tryz.prog 11 #[.slice A n c] w (IntIsT x w) := by
  obtain ⟨v0, e0⟩ : ∃ v, b.getD 0 0 = v := ⟨_, rfl⟩
  have hv0 : 0 ≤ v0 ∧ v0 < 256 := by rw [← e0]; exact getD_byteQ hA.byte 0
  obtain ⟨g, o, rfl, hgl, hcell⟩ := hA.at_ (by omega)
  have k0 := hcell 0 (by omega)
  have k9 := hcell 9 (by omega)
  rw [e0, Nat.add_zero] at k0
  rw [h9] at k9
  rw [e0] at h0
  have hand := and15I v0 hv0
  have hni : (9 : Int) < (n : Int) := by omega
  have hni0 : (0 : Int) < (n : Int) := by omega
  have hw1 : wrap64 (v0 % 16) = v0 % 16 := IntWalk.wrap64_in _ (by omega)
  have hw2 : wrap64 (4 * (v0 % 16)) = H2 := by rw [Int.mul_comm, h0]; exact IntWalk.wrap64_in _ (by omega)
  have hH2 : 0 ≤ H2 ∧ H2 ≤ 60 := by omega
  have HX := Lib.hid hx
  have HB := Lib.hid hH2
  have Hh := Lib.hid h0
  clear hA hcell e0 h0 hv0 hgl hx hH2 h9
  rcases hp with rfl | rfl | rfl
  · have hw3 : wrap64 (H2 + 16) = H2 + 16 := IntWalk.wrap64_in _ (by have := HB.out; omega)
    go_enter Tryz.func11, Tryz.ntmps11
    go_wp2_with fail
    go_ret
    exact ⟨ret_int (by have := HX.out; have := Hh.out; have b6 : behQ 6 = 16 := rfl; have b17 : behQ 17 = 6 := rfl; have b1 : behQ 1 = 2 := rfl; omega), Below.refl _ _⟩
  · have hw3 : wrap64 (H2 + 6) = H2 + 6 := IntWalk.wrap64_in _ (by have := HB.out; omega)
    go_enter Tryz.func11, Tryz.ntmps11
    go_wp2_with fail
    go_ret
    exact ⟨ret_int (by have := HX.out; have := Hh.out; have b6 : behQ 6 = 16 := rfl; have b17 : behQ 17 = 6 := rfl; have b1 : behQ 1 = 2 := rfl; omega), Below.refl _ _⟩
  · have hw3 : wrap64 (H2 + 2) = H2 + 2 := IntWalk.wrap64_in _ (by have := HB.out; omega)
    go_enter Tryz.func11, Tryz.ntmps11
    go_wp2_with fail
    go_ret
    exact ⟨ret_int (by have := HX.out; have := Hh.out; have b6 : behQ 6 = 16 := rfl; have b17 : behQ 17 = 6 := rfl; have b1 : behQ 1 = 2 := rfl; omega), Below.refl _ _⟩
end Go.Proofs.YtoegfgbalcholaaGreat

/-
  culverttop's alike (TopQuotes): of what is alike it tells so.
-/
namespace Go.Proofs.YtoegfgbalcholaaGreat
set_option maxRecDepth 10000
open Go.RowKit
set_option linter.unusedSimpArgs false
set_option linter.unusedVariables false

theorem bytes_diff {a b : List Int} (ha : Bytes a) (hb : Bytes b) {j K : Nat} (hK : j / 2 = K) (h : a.getD j 0 ≠ b.getD j 0) (hl : likeB (wordL a K) (wordL b K) = true) : (wordL a K = 0 ∧ wordL b K = 65535) ∨ (wordL a K = 65535 ∧ wordL b K = 0) := by
  have hne : wordL a K ≠ wordL b K := fun e => h (getD_eq_word ha hb e hK)
  unfold likeB at hl
  simp [hne] at hl
  exact hl
theorem belowNT {B : Nat} {a w : World} (h : Below B a w) (m : Nat) : Below B a (w.drewN m) := ⟨h.os, h.tape, h.output, h.size, h.block⟩
set_option maxHeartbeats 2000000 in
theorem alike_any (A1 A2 : Option Addr) (n c1 c2 F : Nat) (f2 : Int) (a b : List Int) (w : World) (hA : Rd w A1 n a) (hR : Rd w A2 n b) (hn : n ≤ 1500) (hF : 6 ≤ F ∧ F ≤ 1000) (hf2 : f2 = 2 * (F : Int)) (hl : AlikeP a b F) :
    Calls Tryz.prog 10 #[.slice A1 n c1, .slice A2 n c2, .int .i64 10, .int .i64 f2] w (BoolIs true w) := by
  have hlen := hA.len
  obtain ⟨f3, hw1⟩ : ∃ f3, wrap64 (f2 + 1) = f3 := ⟨_, rfl⟩
  have hf3 : f3 = f2 + 1 := by rw [← hw1]; exact IntWalk.wrap64_in _ (by omega)
  obtain ⟨N, NI, hNN, hNI, hNc⟩ : ∃ (N : Nat) (NI : Int), (N ≤ n ∧ ∀ j, j < N → (j ≠ 2 * F ∨ n ≠ 2 * F + 1)) ∧ NI = (N : Int) ∧ ((n = 2 * F + 1 ∧ NI = f2) ∨ (n ≠ 2 * F + 1 ∧ NI = (n : Int))) := by
    by_cases h : n = 2 * F + 1
    · exact ⟨2 * F, f2, ⟨by omega, fun j hj => .inl (by omega)⟩, by omega, .inl ⟨h, rfl⟩⟩
    · exact ⟨n, n, ⟨Nat.le_refl _, fun j hj => .inr h⟩, rfl, .inr ⟨h, rfl⟩⟩
  have HA := Lib.hid hA
  have HR := Lib.hid hR
  have Hn := Lib.hid hn
  have HF := Lib.hid hF
  have Hf2 := Lib.hid hf2
  have Hf3 := Lib.hid hf3
  have HL := Lib.hid hl
  have HNN := Lib.hid hNN
  have HNI := Lib.hid hNI
  have HNc := Lib.hid hNc
  have Hlen := Lib.hid hlen
  have hni : (n : Int) ≤ 1500 := by omega
  clear hA hR hn hF hf2 hl hNN hNI hNc hlen hf3
  go_enter Tryz.func10, Tryz.ntmps10
  go_upto_region 4 with (fail)
  go_cut [27] (fun s wx => s = .bool (decide (n = 2 * F + 1)) ∧ wx = w)
  case first =>
    by_cases h : n = 2 * F + 1
    · have q : ((n : Int) == f3) = true := by have := Hf2.out; have := Hf3.out; simp; omega
      have e := decide_eq_true h
      clear h
      go_wp2_with fail
      go_meet
      exact ⟨by rw [e], rfl⟩
    · have q : ((n : Int) == f3) = false := by have := Hf2.out; have := Hf3.out; simp; omega
      have e := decide_eq_false h
      clear h
      go_wp2_with fail
      go_meet
      exact ⟨by rw [e], rfl⟩
  case rest =>
  obtain ⟨rfl, ewx⟩ := hcut
  have ewx := ewx.symm
  subst ewx
  obtain ⟨qc, eqc⟩ : ∃ q, decide (n = 2 * F + 1) = q := ⟨_, rfl⟩
  have Eqc := Lib.hid eqc
  rw [eqc]
  clear eqc
  go_upto_if 27 with (fail)
  go_cut [9] (fun s9 wx => s9 = .int .i64 NI ∧ wx = w)
  case first =>
    rcases HNc.out with ⟨h, e⟩ | ⟨h, e⟩
    · obtain rfl : qc = true := by rw [← Eqc.out]; exact decide_eq_true h
      clear h
      go_wp2_with fail
      go_meet
      exact ⟨by rw [e], rfl⟩
    · obtain rfl : qc = false := by rw [← Eqc.out]; exact decide_eq_false h
      clear h
      go_wp2_with fail
      go_meet
      exact ⟨by rw [e], rfl⟩
  case rest =>
  obtain ⟨rfl, ewx⟩ := hcut
  have ewx := ewx.symm
  subst ewx
  go_wp2_with fail
  go_loopg [11] N (fun gk i wr => ∃ j : Nat, Hid (gk + j = N) ∧ j ≤ N ∧ i = .int .i64 (j : Int) ∧ Hid (Below w.heap.size w wr))
  case atStart => exact ⟨0, rfl, Nat.zero_le _, rfl, Lib.hid (Below.refl _ _)⟩
  case round =>
    obtain ⟨j, hgk, hj, rfl, hB⟩ := hrel
    by_cases hjN : j < N
    · have d1 : decide ((j : Int) < NI) = true := by have := HNI.out; simp; omega
      have d2 : (j : Int) < NI := by have := HNI.out; omega
      have hjn : j < n := by have := HNN.out; omega
      have hj15 : (j : Int) ≤ 1500 := by have := Hn.out; omega
      obtain ⟨p0, r0, c0, l0⟩ := (HA.out.below hB.out).index (c := c1) (j := j) hjn
      obtain ⟨p1, r1, c1', l1⟩ := (HR.out.below hB.out).index (c := c2) (j := j) hjn
      obtain ⟨x, ex⟩ : ∃ y, a.getD j 0 = y := ⟨_, rfl⟩
      obtain ⟨y, ey⟩ : ∃ y, b.getD j 0 = y := ⟨_, rfl⟩
      rw [ex] at c0
      rw [ey] at c1'
      have Hj := Lib.hid hjN
      have Exy := Lib.hid (And.intro ex ey)
      have hwj : wrap64 ((j : Int) + 1) = (j : Int) + 1 := IntWalk.wrap64_in _ (by omega)
      clear l0 l1 ex ey hjN hj hjn
      by_cases hxy : x = y
      · have p : (x == y) = true := by simpa using hxy
        clear hxy
        go_wp2_with fail
        go_quiet (fail)
        go_wp2_with fail
        go_roundg (gk - 1)
        case measure => have := hgk.out; have := Hj.out; omega
        case rel => exact ⟨j + 1, by have := hgk.out; have := Hj.out; show gk - 1 + (j + 1) = _; omega, by have := Hj.out; omega, by go_num, Lib.hid (belowNT hB.out _)⟩
      · have p : (x == y) = false := by simpa using hxy
        have Hxy := Lib.hid hxy
        clear hxy
        go_wp2_with fail
        go_quiet (fail)
        have hne : a.getD j 0 ≠ b.getD j 0 := by rw [Exy.out.1, Exy.out.2]; exact Hxy.out
        have hlk : (j / 2 = 5 ∨ j / 2 = F) ∧ 2 * (j / 2) + 2 ≤ n ∧ likeB (wordL a (j / 2)) (wordL b (j / 2)) = true := by
          rcases HL.out.2 j (by have := Hlen.out; have := HNN.out; have := Hj.out; omega) (by have h := HNN.out.2 j Hj.out; rw [Hlen.out]; exact h) with h | h
          · exact absurd h hne
          · have h1 := h.1
            simp only [List.mem_cons, List.not_mem_nil, or_false] at h1
            exact ⟨h1, by rw [← Hlen.out]; exact h.2.1, h.2.2⟩
        have Hin := Lib.hid (And.intro hlk.1 hlk.2.1)
        have Hd := Lib.hid (bytes_diff HA.out.byte HR.out.byte rfl hne hlk.2.2)
        have HBd := Lib.hid (belowNT hB.out nq)
        obtain ⟨wq, ewq⟩ : ∃ v, wr.drewN nq = v := ⟨_, rfl⟩
        rw [ewq] at HBd ⊢
        clear ewq c0 c1' r0 r1 p hne hlk
        go_wp2_with fail
        have hgk0 := hgk
        go_loopg [46, 12] 2 (fun gk i s wr => ∃ (k : Nat) (st : Bool) (wi : World), Hid (gk + k = 2) ∧ k ≤ 2 ∧ i = .int .i64 (k : Int) ∧ s = .bool st ∧ Hid ((k = 1 ∧ j / 2 = 5) ∨ k = 2 → st = true) ∧ wr = wi ∧ Hid (Below w.heap.size w wi))
        case atStart => exact ⟨0, false, _, rfl, by omega, rfl, rfl, Lib.hid (fun h => by omega), rfl, HBd⟩
        case round =>
          obtain ⟨k, st, wi, hgk2, hk, rfl, rfl, hst, ewi, HBi⟩ := hrel
          have ewi := ewi.symm
          subst ewi
          by_cases hk2 : k < 2
          · obtain ⟨K, atx, hix, hat, hKk⟩ : ∃ (K : Nat) (atx : Int), (∀ W : World, (Instr.index 95 (.agg #[.int .i64 10, .int .i64 f2]) (.int .i64 (k : Int))).run Tryz.prog W = .ok (.int .i64 atx) W) ∧ atx = 2 * (K : Int) ∧ ((k = 0 ∧ K = 5) ∨ (k = 1 ∧ K = F)) := by
              rcases (show k = 0 ∨ k = 1 by omega) with rfl | rfl
              · exact ⟨5, 10, fun W => idx2_0 _ _ W, rfl, .inl ⟨rfl, rfl⟩⟩
              · exact ⟨F, f2, fun W => idx2_1 _ _ W, Hf2.out, .inr ⟨rfl, rfl⟩⟩
            have hk0 : (k : Int) < 2 := by omega
            have hk1 : decide ((k : Int) < 2) = true := by simp; omega
            have hkw : wrap64 ((k : Int) + 1) = (k : Int) + 1 := IntWalk.wrap64_in _ (by omega)
            have hKb : K ≤ 1000 := by have := HF.out; omega
            obtain ⟨a3, hw3⟩ : ∃ f3, wrap64 (atx + 1) = f3 := ⟨_, rfl⟩
            obtain ⟨a4, hw4⟩ : ∃ f3, wrap64 (atx + 2) = f3 := ⟨_, rfl⟩
            have ha3 : a3 = atx + 1 := by rw [← hw3]; exact IntWalk.wrap64_in _ (by omega)
            have ha4 : a4 = atx + 2 := by rw [← hw4]; exact IntWalk.wrap64_in _ (by omega)
            have Ha := Lib.hid (And.intro hat (And.intro ha3 ha4))
            have HKk := Lib.hid hKk
            have Hk2 := Lib.hid hk2
            obtain ⟨q, eq⟩ : ∃ q, decide (j / 2 = K) = q := ⟨_, rfl⟩
            have Eq := Lib.hid eq
            clear hat ha3 ha4 hKk hk2 eq hKb hk
            go_upto_region 15 with (fail)
            go_cut [64] (fun s wx => s = .bool q ∧ wx = wi)
            case first =>
              by_cases hw : j / 2 = K
              · have hl2 : decide (a4 ≤ (n : Int)) = true := by have := Hin.out.2; have := Ha.out; simp; omega
                have hl3 : a4 ≤ (n : Int) := by have := Hin.out.2; have := Ha.out; omega
                have E := Lib.hid (show true = q by rw [← Eq.out]; exact (decide_eq_true hw).symm)
                rcases (show j = 2 * K ∨ j = 2 * K + 1 by omega) with h | h
                · have p5 : ((j : Int) == atx) = true := by have := Ha.out; simp; omega
                  clear h hw
                  go_wp2_with fail
                  go_meet
                  exact ⟨by rw [E.out], rfl⟩
                · have p5 : ((j : Int) == atx) = false := by have := Ha.out; simp; omega
                  have p6 : ((j : Int) == a3) = true := by have := Ha.out; simp; omega
                  clear h hw
                  go_wp2_with fail
                  go_meet
                  exact ⟨by rw [E.out], rfl⟩
              · have E := Lib.hid (show false = q by rw [← Eq.out]; exact (decide_eq_false hw).symm)
                have p5 : ((j : Int) == atx) = false := by have := Ha.out; simp; omega
                have p6 : ((j : Int) == a3) = false := by have := Ha.out; simp; omega
                clear hw
                go_wp2_with fail
                go_meet
                exact ⟨by rw [E.out], rfl⟩
            case rest =>
            obtain ⟨rfl, ewx⟩ := hcut
            have ewx := ewx.symm
            subst ewx
            cases q with
            | true =>
              have hw : j / 2 = K := of_decide_eq_true Eq.out
              obtain ⟨wx, ewx⟩ : ∃ y, wordL a K = y := ⟨_, rfl⟩
              obtain ⟨wy, ewy⟩ : ∃ y, wordL b K = y := ⟨_, rfl⟩
              have Hxyw := Lib.hid (show (wx = 0 ∧ wy = 65535) ∨ (wx = 65535 ∧ wy = 0) by rw [← ewx, ← ewy, ← hw]; exact Hd.out)
              have Ewx := Lib.hid ewx
              have Ewy := Lib.hid ewy
              have HlA := Lib.hid (show 2 * K + 1 < n by have := Hin.out.2; rw [hw] at this; omega)
              clear ewx ewy hw
              go_wp2_with fail
              refine (aword_any A1 n c1 a atx wx K _ (by have := Hn.out; omega) Ha.out.1 HlA.out (HA.out.below HBi.out) Ewx.out).mono ?_
              rintro e v1 ⟨rfl, hb1⟩
              have HB1 := Lib.hid (below_trans HBi.out hb1)
              clear hb1
              go_wp2_with fail
              refine (aword_any A2 n c2 b atx wy K _ (by have := Hn.out; omega) Ha.out.1 HlA.out (HR.out.below HB1.out) Ewy.out).mono ?_
              rintro e v2 ⟨rfl, hb2⟩
              have HB2 := Lib.hid (below_trans HB1.out hb2)
              clear hb2
              cases st with
              | true =>
                go_wp2_with fail
                go_roundg (gk - 1)
                case measure => have := hgk2.out; have := Hk2.out; omega
                case rel => exact ⟨k + 1, true, _, by have := hgk2.out; have := Hk2.out; show gk - 1 + (k + 1) = _; omega, by have := Hk2.out; omega, by go_num, rfl, Lib.hid (fun _ => (by simp)), rfl, HB2⟩
              | false =>
                rcases Hxyw.out with ⟨e1, e2⟩ | ⟨e1, e2⟩
                · subst e1 e2
                  go_wp2_with fail
                  go_roundg (gk - 1)
                  case measure => have := hgk2.out; have := Hk2.out; omega
                  case rel => exact ⟨k + 1, true, _, by have := hgk2.out; have := Hk2.out; show gk - 1 + (k + 1) = _; omega, by have := Hk2.out; omega, by go_num, rfl, Lib.hid (fun _ => (by simp)), rfl, HB2⟩
                · subst e1 e2
                  go_wp2_with fail
                  go_roundg (gk - 1)
                  case measure => have := hgk2.out; have := Hk2.out; omega
                  case rel => exact ⟨k + 1, true, _, by have := hgk2.out; have := Hk2.out; show gk - 1 + (k + 1) = _; omega, by have := Hk2.out; omega, by go_num, rfl, Lib.hid (fun _ => (by simp)), rfl, HB2⟩
            | false =>
              have hw : ¬ j / 2 = K := of_decide_eq_false Eq.out
              have Hw := Lib.hid hw
              clear hw
              go_wp2_with fail
              go_roundg (gk - 1)
              case measure => have := hgk2.out; have := Hk2.out; omega
              case rel => exact ⟨k + 1, st, _, by have := hgk2.out; have := Hk2.out; show gk - 1 + (k + 1) = _; omega, by have := Hk2.out; omega, by go_num, rfl, Lib.hid (fun h => hst.out (by have := HKk.out; have := Hw.out; have := Hin.out.1; omega)), rfl, HBi⟩
          · obtain rfl : k = 2 := by omega
            have est : st = true := hst.out (.inr rfl)
            subst est
            go_wp2_with fail
            go_roundg (N - (j + 1))
            case measure => have := hgk0.out; have := Hj.out; omega
            case rel => exact ⟨j + 1, by have := Hj.out; show N - (j + 1) + (j + 1) = _; omega, by have := Hj.out; omega, by go_num, HBi⟩
    · have hjN2 : j = N := by omega
      have d1 : decide ((j : Int) < NI) = false := by have := HNI.out; simp; omega
      have d2 : ¬ (j : Int) < NI := by have := HNI.out; omega
      clear hjN hj hjN2
      go_wp2_with fail
      go_ret
      exact ⟨rfl, hB.out⟩
end Go.Proofs.YtoegfgbalcholaaGreat

/-
  The small functions of package nat: word, lay, has, follow.
-/
namespace Go.Proofs.YtoegfgbalcholaaGreat
set_option maxRecDepth 10000
open Go.RowKit
set_option linter.unusedSimpArgs false
set_option linter.unusedVariables false

/-- A word of the bytes. -/
theorem nword_any (A : Option Addr) (m c : Nat) (l : List Int) (a x : Int) (K : Nat) (w : World) (hm : m ≤ 140737488355328) (ha : a = 2 * (K : Int)) (hK : 2 * K + 1 < m) (h : Rd w A m l) (hx : wordL l K = x) :
    Calls Tryz.prog 64 #[.slice A m c, .int .i64 a] w (SumIs x w) := by
  subst ha
  obtain ⟨b, o, rfl, hb, hc⟩ := h.at_ (by omega)
  have hc1 := hc (2 * K) (by omega)
  have hc2 := hc (2 * K + 1) (by omega)
  have hx1 := getD_byte h.byte (2 * K)
  have hy := getD_byte h.byte (2 * K + 1)
  obtain ⟨x1, ex⟩ : ∃ x, l.getD (2 * K) 0 = x := ⟨_, rfl⟩
  obtain ⟨y, ey⟩ : ∃ y, l.getD (2 * K + 1) 0 = y := ⟨_, rfl⟩
  have Hw := Lib.hid (show x = x1 * 256 + y by rw [← hx]; unfold wordL; rw [ex, ey])
  rw [ex] at hc1 hx1
  rw [ey] at hc2 hy
  have hor := or16 x1 y hx1 hy
  have hi1 : 2 * (K : Int) + 1 < (m : Int) := by omega
  have hi0 : 2 * (K : Int) < (m : Int) := by omega
  have hk0 : 0 ≤ 2 * (K : Int) := by omega
  obtain ⟨hx0, hx1'⟩ := id hx1
  obtain ⟨hy0, hy1⟩ := id hy
  have hmi : (m : Int) ≤ 140737488355328 := by omega
  have hbnd : 2 * (K : Int) + 1 ≤ 140737488355328 := by omega
  have hw2 : IntKind.i64.wrap (2 * (K : Int) + 1) = 2 * (K : Int) + 1 := IntWalk.i64_in _ (by omega)
  have hc2 : w.cell? ⟨b, o + (2 * (K : Int) + 1).toNat, none⟩ = some (.int .u8 y) := by rw [show (2 * (K : Int) + 1).toNat = 2 * K + 1 by omega]; exact hc2
  have hc1 : w.cell? ⟨b, o + (2 * (K : Int)).toNat, none⟩ = some (.int .u8 x1) := by rw [show (2 * (K : Int)).toNat = 2 * K by omega]; exact hc1
  clear h hc ex ey hx1 hy hx hK hm
  go_enter Tryz.func64, Tryz.ntmps64
  go_wp2_with fail
  go_quiet (fail)
  go_wp2_with fail
  go_ret
  exact ⟨ret_int Hw.out.symm, rfl, rfl, rfl, Nat.le_refl _, fun _ _ => rfl⟩

/-- A word of a row of the call's own becomes another one. -/
def NLayIs (B g n c : Nat) (l : List Int) (w : World) (e : Ending) (w' : World) : Prop := e = .returned (.tuple #[]) ∧ OwnB w' B (some ⟨g, 0, none⟩) n c l ∧ But (fun k => k = g) w w'
theorem nlay_any (B g m c : Nat) (l : List Int) (a x : Int) (K : Nat) (w : World) (hm : m ≤ 140737488355328) (ha : a = 2 * (K : Int)) (hK : 2 * K + 1 < m) (hx : U16 x) (h : OwnB w B (some ⟨g, 0, none⟩) m c l) (L : List Int) (hL : layL l K x = L) :
    Calls Tryz.prog 65 #[.slice (some ⟨g, 0, none⟩) m c, .int .i64 a, .int .u16 x] w (NLayIs B g m c L w) := by
  subst ha
  have hcap := h.cap
  have hc1 := h.cell (2 * K) (by omega)
  have hc2 := h.cell (2 * K + 1) (by omega)
  have hf1 : w.frozen? ⟨g, 2 * K, none⟩ = false := World.ownsRow.frozenAt h _
  have hf2 : w.frozen? ⟨g, 2 * K + 1, none⟩ = false := World.ownsRow.frozenAt h _
  have hi1 : 2 * (K : Int) + 1 < (m : Int) := by omega
  have hi2 : 2 * K + 1 < m := by omega
  obtain ⟨hx0, hx1⟩ := id hx
  have Hw := Lib.hid (show OwnB ((w.setCell ⟨g, 2 * K, none⟩ (.int .u8 (x / 256))).setCell ⟨g, 2 * K + 1, none⟩ (.int .u8 (x % 256))) B (some ⟨g, 0, none⟩) m c L by rw [← hL]; exact (h.set_ (2 * K) (x / 256)).set_ (2 * K + 1) (x % 256))
  have hmi : (m : Int) ≤ 140737488355328 := by omega
  have hbnd : 2 * (K : Int) + 1 ≤ 140737488355328 := by omega
  have hw2 : IntKind.i64.wrap (2 * (K : Int) + 1) = 2 * (K : Int) + 1 := IntWalk.i64_in _ (by omega)
  clear h hcap hx hL
  go_enter Tryz.func65, Tryz.ntmps65
  go_wp2_with fail
  go_end0
  exact ⟨rfl, Hw.out, ((But.refl (fun k => k = g) _).setCell (p := ⟨g, 2 * K, none⟩) rfl _).setCell (p := ⟨g, 2 * K + 1, none⟩) rfl _⟩

/-- A slice of spans, read. -/
structure SpRd (w : World) (s m : Nat) (L : List (Int × Int)) : Prop where
  len : L.length = m
  lt : s < w.heap.size
  at_ : ∀ i, i < m → w.cell? ⟨s, i * 2, none⟩ = some (.int .i64 (L.getD i (0, 0)).1) ∧ w.cell? ⟨s, i * 2 + 1, none⟩ = some (.int .i64 (L.getD i (0, 0)).2)
theorem SpRd.but {S : Nat → Prop} {w w' : World} {s m : Nat} {L : List (Int × Int)} (h : SpRd w s m L) (hb : But S w w') (hS : ¬ S s) : SpRd w' s m L :=
  ⟨h.len, hb.lt h.lt, fun i hi => by rw [hb.cell (p := ⟨s, i * 2, none⟩) h.lt hS, hb.cell (p := ⟨s, i * 2 + 1, none⟩) h.lt hS]; exact h.at_ i hi⟩
theorem SpRd.below {w w' : World} {s m : Nat} {L : List (Int × Int)} (h : SpRd w s m L) (hb : Below w.heap.size w w') : SpRd w' s m L := h.but (S := fun _ => False) (But.of hb) (fun h => h)
theorem SpRd.one {w : World} {s : Nat} {a b : Int} {T : TypeId} (h : w.heap[s]? = some (.cells #[.int .i64 a, .int .i64 b] T (0, 0))) : SpRd w s 1 [(a, b)] :=
  ⟨rfl, lt_of_block h, fun i hi => by
    obtain rfl : i = 0 := by omega
    exact ⟨by rw [blk_cell h]; rfl, by rw [blk_cell h]; rfl⟩⟩
theorem SpRd.two {w : World} {s : Nat} {a b c d : Int} {T : TypeId} (h : w.heap[s]? = some (.cells #[.int .i64 a, .int .i64 b, .int .i64 c, .int .i64 d] T (0, 0))) : SpRd w s 2 [(a, b), (c, d)] :=
  ⟨rfl, lt_of_block h, fun i hi => by
    rcases (show i = 0 ∨ i = 1 by omega) with rfl | rfl
    · exact ⟨by rw [blk_cell h]; rfl, by rw [blk_cell h]; rfl⟩
    · exact ⟨by rw [blk_cell h]; rfl, by rw [blk_cell h]; rfl⟩⟩
theorem SpRd.index {w : World} {s m c : Nat} {L : List (Int × Int)} (h : SpRd w s m L) {j : Nat} (hj : j < m) :
    ∃ p, (∀ W : World, (Instr.indexAt 119 (.slice (some ⟨s, 0, none⟩) m c) (.int .i64 (j : Int))).run Tryz.prog W = .ok (.pointer (some ⟨s, p, none⟩)) W) ∧ w.cell? ⟨s, p, none⟩ = some (.int .i64 (L.getD j (0, 0)).1) ∧ w.cell? ⟨s, p + 1, none⟩ = some (.int .i64 (L.getD j (0, 0)).2) := by
  have k0 : (0 : Int) ≤ (j : Int) := by omega
  have k1 : (j : Int) < (m : Int) := by omega
  exact ⟨0 + j * 2, fun W => by go_simp, by rw [Nat.zero_add]; exact (h.at_ j hj).1, by rw [Nat.zero_add]; exact (h.at_ j hj).2⟩
def inSp (a : Int) (s : Int × Int) : Bool := decide (s.1 ≤ a) && decide (a < s.2)
def hasSp (L : List (Int × Int)) (a : Int) : Bool := L.any (inSp a)
set_option maxHeartbeats 1000000 in
theorem has_any (at_ : Int) (s m : Nat) (o z : Bool) (L : List (Int × Int)) (a : Int) (x : Bool) (w : World) (h : SpRd w s m L) (hm : m ≤ 1000) (hx : hasSp L a = x) :
    Calls Tryz.prog 66 #[.agg #[.int .i64 at_, .slice (some ⟨s, 0, none⟩) m m, .bool o, .bool z], .int .i64 a] w (BoolIs x w) := by
  obtain ⟨w0, ew⟩ : ∃ w0, w.alloc (.cells #[.int .i64 at_, .slice (some ⟨s, 0, none⟩) m m, .bool o, .bool z] 121) = w0 := ⟨_, rfl⟩
  obtain ⟨z0, hz⟩ : ∃ z, w.heap.size = z := ⟨_, rfl⟩
  have hb0 : Below w.heap.size w w0 := by rw [← ew]; exact (Below.refl _ _).alloc (Nat.le_refl _) _
  have hk0 : w0.heap[z0]? = some (.cells #[.int .i64 at_, .slice (some ⟨s, 0, none⟩) m m, .bool o, .bool z] 121 (0, 0)) := by rw [← ew, ← hz]; exact heap_alloc_new w _
  have HS := Lib.hid (h.below hb0)
  have Hlen := Lib.hid h.len
  have g1 : w0.cell? ⟨z0, 1, none⟩ = some (.slice (some ⟨s, 0, none⟩) m m) := blk_cell hk0 1
  have Ew := Lib.hid ew
  have Hz := Lib.hid hz
  have Hx := Lib.hid hx
  have Hb0 := Lib.hid hb0
  have hmi : (m : Int) ≤ 1000 := by omega
  clear h hb0 hk0 hx ew hz
  go_enter Tryz.func66, Tryz.ntmps66
  go_upto_region 1 with (fail)
  rw [Ew.out]
  try rw [Hz.out]
  go_wp2_with fail
  clear g1 Ew Hz
  go_loopg [10] m (fun gk i wr => ∃ j : Nat, Hid (gk + j = m) ∧ j ≤ m ∧ i = .int .i64 (j : Int) ∧ Hid (∀ t, t < j → inSp a (L.getD t (0, 0)) = false) ∧ Hid (Below w0.heap.size w0 wr))
  case atStart => exact ⟨0, rfl, Nat.zero_le _, rfl, Lib.hid (fun t ht => by omega), Lib.hid (Below.refl _ _)⟩
  case round =>
    obtain ⟨j, hgk, hj, rfl, hno, hB⟩ := hrel
    by_cases hjn : j < m
    · obtain ⟨p, hidx, c0, c1⟩ := (HS.out.below hB.out).index (c := m) hjn
      obtain ⟨⟨f, t⟩, ef⟩ : ∃ f, L.getD j (0, 0) = f := ⟨_, rfl⟩
      rw [ef] at c0 c1
      simp only at c0 c1
      obtain ⟨z2, ez2⟩ : ∃ y, wr.heap.size = y := ⟨_, rfl⟩
      obtain ⟨w2, ew2⟩ : ∃ w1, wr.alloc (.cells #[.int .i64 f, .int .i64 t] 170) = w1 := ⟨_, rfl⟩
      have hBa : Below wr.heap.size wr w2 := by rw [← ew2]; exact (Below.refl _ _).alloc (Nat.le_refl _) _
      have hkf : w2.heap[z2]? = some (.cells #[.int .i64 f, .int .i64 t] 170 (0, 0)) := by rw [← ew2, ← ez2]; exact heap_alloc_new wr _
      have HB1 := Lib.hid (below_trans hB.out hBa)
      have i0 : (0 : Int) ≤ (j : Int) := by omega
      have i1 : (j : Int) < (m : Int) := by omega
      have d0 : w2.cell? ⟨z2, 0, none⟩ = some (.int .i64 f) := blk_cell hkf 0
      have d1 : w2.cell? ⟨z2, 1, none⟩ = some (.int .i64 t) := blk_cell hkf 1
      have Hjn := Lib.hid hjn
      have Hef := Lib.hid ef
      have Ew2 := Lib.hid ew2
      have Ez2 := Lib.hid ez2
      have HB2 := Lib.hid (below_trans Hb0.out HB1.out)
      clear ef hBa hkf ew2 ez2
      go_upto_region 4 with (fail)
      rw [Ew2.out]
      try rw [Ez2.out]
      clear c0 c1 hidx
      obtain ⟨y, ey⟩ : ∃ y, inSp a (f, t) = y := ⟨_, rfl⟩
      have Ey := Lib.hid ey
      unfold inSp at ey
      simp only at ey
      by_cases h1 : f ≤ a
      · by_cases h2 : a < t
        · have Hall := Lib.hid (show hasSp L a = true from List.any_eq_true.2 ⟨(f, t), by
            rw [← Hef.out]
            simp only [List.getD]
            rw [List.getElem?_eq_getElem (by have := Hlen.out; have := Hjn.out; omega)]
            exact List.getElem_mem _, by unfold inSp; simp [h1, h2]⟩)
          clear ey
          go_wp2_with fail
          go_ret
          exact ⟨ret_bool (by rw [← Hx.out, Hall.out]), HB2.out⟩
        · have Hno2 := Lib.hid (show ∀ k, k < j + 1 → inSp a (L.getD k (0, 0)) = false by
            intro k hk
            by_cases e : k = j
            · subst e; rw [Hef.out]; unfold inSp; simp; intro _; omega
            · exact hno.out k (by omega))
          clear ey
          go_wp2_with fail
          go_roundg (gk - 1)
          case measure => have := hgk.out; have := Hjn.out; omega
          case rel => exact ⟨j + 1, by have := hgk.out; have := Hjn.out; show gk - 1 + (j + 1) = _; omega, by have := Hjn.out; omega, by go_num, Hno2, HB1⟩
      · have Hno2 := Lib.hid (show ∀ k, k < j + 1 → inSp a (L.getD k (0, 0)) = false by
          intro k hk
          by_cases e : k = j
          · subst e; rw [Hef.out]; unfold inSp; simp; intro _; omega
          · exact hno.out k (by omega))
        clear ey
        go_wp2_with fail
        go_roundg (gk - 1)
        case measure => have := hgk.out; have := Hjn.out; omega
        case rel => exact ⟨j + 1, by have := hgk.out; have := Hjn.out; show gk - 1 + (j + 1) = _; omega, by have := Hjn.out; omega, by go_num, Hno2, HB1⟩
    · obtain rfl : m = j := by omega
      have HB2 := Lib.hid (below_trans Hb0.out hB.out)
      go_wp2_with fail
      go_ret
      refine ⟨ret_bool ?_, HB2.out⟩
      rw [← Hx.out]
      unfold hasSp
      symm
      rw [List.any_eq_false]
      intro q hq
      obtain ⟨t, ht⟩ := List.getElem?_of_mem hq
      obtain ⟨htl, e⟩ := List.getElem?_eq_some_iff.1 ht
      have := hno.out t (by have := Hlen.out; omega)
      rw [show L.getD t (0, 0) = q by simp [List.getD, ht]] at this
      simp [this]
/-- What becomes of a field. -/
def folF (o z : Bool) (now was is_ : Int) : Int := if o = true ∧ now = 0 then 0 else if z = true ∧ wordF now was is_ = 0 then 65535 else wordF now was is_
theorem folF_bd (o z : Bool) {now was is_ : Int} (hn : U16 now) (hw : U16 was) (hi : U16 is_) : U16 (folF o z now was is_) := by
  unfold folF
  split
  · exact ⟨by omega, by omega⟩
  · split
    · exact ⟨by omega, by omega⟩
    · exact wordF_bd _ _ _ hn hw hi
set_option maxHeartbeats 1000000 in
theorem follow_any (at_ : Int) (s m : Nat) (o z : Bool) (now was is_ x : Int) (w : World) (hn : U16 now ∧ U16 was ∧ U16 is_) (hx : folF o z now was is_ = x) :
    Calls Tryz.prog 67 #[.agg #[.int .i64 at_, .slice (some ⟨s, 0, none⟩) m m, .bool o, .bool z], .int .u16 now, .int .u16 was, .int .u16 is_] w (SumIs x w) := by
  obtain ⟨w0, ew⟩ : ∃ w0, w.alloc (.cells #[.int .i64 at_, .slice (some ⟨s, 0, none⟩) m m, .bool o, .bool z] 121) = w0 := ⟨_, rfl⟩
  obtain ⟨z0, hz⟩ : ∃ z, w.heap.size = z := ⟨_, rfl⟩
  have hb0 : Below w.heap.size w w0 := by rw [← ew]; exact (Below.refl _ _).alloc (Nat.le_refl _) _
  have hk0 : w0.heap[z0]? = some (.cells #[.int .i64 at_, .slice (some ⟨s, 0, none⟩) m m, .bool o, .bool z] 121 (0, 0)) := by rw [← ew, ← hz]; exact heap_alloc_new w _
  have g2 : w0.cell? ⟨z0, 2, none⟩ = some (.bool o) := blk_cell hk0 2
  have g3 : w0.cell? ⟨z0, 3, none⟩ = some (.bool z) := blk_cell hk0 3
  obtain ⟨y, ey⟩ : ∃ y, wordF now was is_ = y := ⟨_, rfl⟩
  have hyb : U16 y := by rw [← ey]; exact wordF_bd _ _ _ hn.1 hn.2.1 hn.2.2
  have hnot := not16 y hyb
  have Hnot := Lib.hid hnot
  have Hy := Lib.hid ey
  have Hn := Lib.hid hn
  have Ew := Lib.hid ew
  have Hz := Lib.hid hz
  unfold folF at hx
  rw [ey] at hx
  have Hx := Lib.hid hx
  have Hb0 := Lib.hid hb0
  clear hb0 hk0 hx ew hz ey hnot hyb
  go_enter Tryz.func67, Tryz.ntmps67
  go_upto_region 1 with (fail)
  rw [Ew.out]
  try rw [Hz.out]
  clear Ew Hz
  cases o with
  | true =>
    by_cases h0 : now = 0
    · have p1 : (now == 0) = true := by simpa using h0
      have hx := Hx.out
      rw [if_pos ⟨rfl, h0⟩] at hx
      have Hx0 := Lib.hid hx
      clear h0 hx Hx hn
      go_wp2_with fail
      go_ret
      exact ⟨ret_int Hx0.out, Hb0.out⟩
    · have p1 : (now == 0) = false := by simpa using h0
      have hx := Hx.out
      rw [if_neg (fun h => h0 h.2)] at hx
      clear h0 Hx
      have Hx := Lib.hid hx
      clear hx
      go_wp2_with fail
      clear hn
      refine (word_told now was is_ y w0 Hn.out.1 Hn.out.2.1 Hn.out.2.2 Hy.out).mono ?_
      rintro e w1 ⟨rfl, rfl⟩
      clear p1
      cases z with
      | true =>
        by_cases hy : y = 0
        · have p2 : (y == 0) = true := by simpa using hy
          have hx := Hx.out
          rw [if_pos ⟨rfl, hy⟩] at hx
          have Hx0 := Lib.hid hx
          have Hy0 := Lib.hid hy
          have hnot := Hnot.out
          clear hx Hx hy
          go_wp2_with fail
          go_ret
          exact ⟨ret_int (by rw [← Hx0.out, Hy0.out]; rfl), Hb0.out⟩
        · have p2 : (y == 0) = false := by simpa using hy
          have hx := Hx.out
          rw [if_neg (fun h => hy h.2)] at hx
          have Hx0 := Lib.hid hx
          clear hx Hx hy
          go_wp2_with fail
          go_ret
          exact ⟨ret_int Hx0.out, Hb0.out⟩
      | false =>
        have hx := Hx.out
        rw [if_neg (fun h => Bool.noConfusion h.1)] at hx
        have Hx0 := Lib.hid hx
        clear hx Hx
        go_wp2_with fail
        go_ret
        exact ⟨ret_int Hx0.out, Hb0.out⟩
  | false =>
    have hx := Hx.out
    rw [if_neg (fun h => Bool.noConfusion h.1)] at hx
    clear Hx
    have Hx := Lib.hid hx
    clear hx
    go_wp2_with fail
    clear hn
    refine (word_told now was is_ y w0 Hn.out.1 Hn.out.2.1 Hn.out.2.2 Hy.out).mono ?_
    rintro e w1 ⟨rfl, rfl⟩
    cases z with
    | true =>
      by_cases hy : y = 0
      · have p2 : (y == 0) = true := by simpa using hy
        have hx := Hx.out
        rw [if_pos ⟨rfl, hy⟩] at hx
        have Hx0 := Lib.hid hx
        have Hy0 := Lib.hid hy
        have hnot := Hnot.out
        clear hx Hx hy
        go_wp2_with fail
        go_ret
        exact ⟨ret_int (by rw [← Hx0.out, Hy0.out]; rfl), Hb0.out⟩
      · have p2 : (y == 0) = false := by simpa using hy
        have hx := Hx.out
        rw [if_neg (fun h => hy h.2)] at hx
        have Hx0 := Lib.hid hx
        clear hx Hx hy
        go_wp2_with fail
        go_ret
        exact ⟨ret_int Hx0.out, Hb0.out⟩
    | false =>
      have hx := Hx.out
      rw [if_neg (fun h => Bool.noConfusion h.1)] at hx
      have Hx0 := Lib.hid hx
      clear hx Hx
      go_wp2_with fail
      go_ret
      exact ⟨ret_int Hx0.out, Hb0.out⟩
end Go.Proofs.YtoegfgbalcholaaGreat
