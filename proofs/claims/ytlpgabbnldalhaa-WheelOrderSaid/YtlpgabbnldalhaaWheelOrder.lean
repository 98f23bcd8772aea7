/-
  WheelOrder holds: the order in which alarms are set does not matter; one that is stopped is not told; set again it is told at its new instant alone: any instants, any place, any new instant.
-/
import Derived.Test.YtlpgabbnldalhaaWhMany
import Derived.Test.YtlpgabbnldalhaaWhOpen
import Derived.Test.YtlpgabbnldalhaaWhlFace
import Derived.Test.YtlpgabbnldalhaaOrdPure
import Derived.Deep.CutRange
import Derived.Deep.DeepCutAuto
import Derived.Deep.LoopGhost
import Derived.BigRegion
import Derived.BigQuiet
namespace Go.Proofs.Ytlpgabbnldalhaa.wheelOrder
set_option maxRecDepth 10000
open Go.ChangeShapes Go.WideShapes Go.ChangeAt Go.RowKit
set_option linter.unusedVariables false
set_option linter.unusedSimpArgs false

def Z0 (w : World) : Nat → Prop := fun k => k < w.heap.size
theorem z0_below {w a b : World} (h : But (fun k => ¬ Z0 w k) a b) (hs : w.heap.size ≤ a.heap.size) : Below w.heap.size a b := h.below (fun k hk => by unfold Z0 at hk; omega) hs
/-- What the walk knows between two calls. -/
structure At (w : World) (l : List Int) (A : Option Addr) (ws : WL) (wr : World) : Prop where
  m : Many WAtP (Z0 w) wr ws
  b : Below w.heap.size w wr
  r : RdN wr .u16 A l
theorem At.go {w : World} {l : List Int} {A : Option Addr} {ws ws' : WL} {wr w' : World} (h : At w l A ws wr) (hm : Many WAtP (Z0 w) w' ws') (hb : But (fun k => ¬ Z0 w k) wr w') (h0 : RdN w .u16 A l) : At w l A ws' w' := by
  have h1 := h.b.trans (z0_below hb h.b.size)
  exact ⟨hm, h1, h0.below h1⟩
/-- One more Tick: what it tells lies where nothing turns. -/
structure Tk (Z : Nat → Prop) (w : World) (ws : WL) (wr : World) : Prop where
  m : Many WAtP Z wr ws
  b : Below w.heap.size w wr
  z : ∀ k, k < w.heap.size → Z k
theorem Tk.go {Z Z' : Nat → Prop} {w : World} {ws ws' : WL} {wr w' : World} (h : Tk Z w ws wr) (hm : Many WAtP Z' w' ws') (hb : But (fun k => ¬ Z k) wr w') (hz : ∀ k, Z k → Z' k) : Tk Z' w ws' w' :=
  ⟨hm, h.b.trans (hb.below (fun k hk => by rcases Nat.lt_or_ge k w.heap.size with x | x; exact absurd (h.z k x) hk; exact x) h.b.size), fun k hk => hz k (h.z k hk)⟩
theorem keptS {Z : Nat → Prop} {w w' : World} {T : TypeId} {kd : IntKind} {v : Value} {l : List Int} (h : Sl w T kd v l) (hb : But (fun k => ¬ Z k) w w') (hz : ∀ b, v.ownBlock = some b → Z b) : Sl w' T kd v l :=
  h.but hb (fun b hb' hn => hn (hz b hb'))
theorem below_drewW {B : Nat} {a b : World} (h : Below B a b) (m : Nat) : Below B a (b.drewN m) := ⟨h.os, h.tape, h.output, h.size, h.block⟩
set_option maxHeartbeats 2000000 in
theorem walk (w : World) (v : Value) (hv : ∃ l, NumsAt w .u16 0 65536 v l) (k : Int) (hk : (Lit.int .u8 k).wf = true) (again : Int) (hag : (Lit.int .u16 again).wf = true) :
    Calls Try.prog 5 #[v, .int .u8 k, .int .u16 again] w fun e w' => e = .returned (.bool true) ∧ Below w.heap.size w w' := by
  obtain ⟨l0, A, c, rfl, hlc, hcm, hrd, hb0⟩ := hv
  obtain ⟨n, ek, hkn, hk40⟩ := min_nat 40 l0.length (by omega)
  have hrl := hrd.take n
  have hbl : ∀ x, x ∈ l0.take n → 0 ≤ x ∧ x < 65536 := fun x hx => hb0 x (List.mem_of_mem_take hx)
  have hln : (l0.take n).length = n := by rw [List.length_take]; omega
  obtain ⟨N, eN⟩ : ∃ N, l0.length = N := ⟨_, rfl⟩
  obtain ⟨l, el⟩ : ∃ l, l0.take n = l := ⟨_, rfl⟩
  rw [el] at hrl hbl hln
  rw [eN] at ek hlc hkn ⊢
  have ek2 : min (N : Int) 40 = (n : Int) := by split at ek <;> omega
  have hkc : (n : Int) ≤ (c : Int) := by omega
  have hk0 : (0 : Int) ≤ (n : Int) := by omega
  have hag2 := bounds_u16 hag
  have Hrl := Lib.hid hrl
  have Hbl := Lib.hid hbl
  have Hln := Lib.hid hln
  have hn40 : n ≤ 40 := by omega
  have Hk := Lib.hid hk
  have H0 := Lib.hid (show At w l A [] w from ⟨Many.none_ w, Below.refl _ _, hrl⟩)
  clear hrd hb0 hrl hbl hln el eN hcm hk40 hk hag
  go_enter Try.func5, Try.ntmps5
  go_wp2_with fail
  refine (mnew face (Z0 w) [] w H0.out.m).mono ?_
  rintro e w1 ⟨ga, rfl, hm1, hb1⟩
  have H1 := Lib.hid (H0.out.go hm1 hb1 Hrl.out)
  clear hm1 hb1
  go_wp2_with fail
  refine (mnew face (Z0 w) _ w1 H1.out.m).mono ?_
  rintro e w2 ⟨gb, rfl, hm2, hb2⟩
  have H2 := Lib.hid (show At w l A [(ga, 0, []), (gb, 0, [])] w2 from H1.out.go hm2 hb2 Hrl.out)
  clear hm2 hb2 H1 H0
  go_wp2_with fail
  go_loopg [9, 10] n (fun gk x9 x10 wr => ∃ (i : Nat) (La Lb : AL), Hid (gk + i = n) ∧ i ≤ n ∧ x9 = .int .i64 (i : Int) ∧ Hid (At w l A [(ga, 0, La), (gb, 0, Lb)] wr) ∧ Hid (HasW l (fun e => 0 ≤ e ∧ e < (i : Int)) La) ∧ Hid (HasW l (fun e => (n : Int) - (i : Int) ≤ e ∧ e < (n : Int)) Lb) ∧ Hid (La.length ≤ i ∧ Lb.length ≤ i))
  case atStart => exact ⟨0, [], [], rfl, Nat.zero_le _, rfl, H2, Lib.hid ((HasW.nil l).congr (fun e => ⟨fun x => x.elim, fun x => absurd x.2 (by have := x.1; omega)⟩)), Lib.hid ((HasW.nil l).congr (fun e => ⟨fun x => x.elim, fun x => absurd x.2 (by have := x.1; omega)⟩)), Lib.hid ⟨Nat.le_refl _, Nat.le_refl _⟩⟩
  case round =>
    obtain ⟨i, La, Lb, hgk, hi, rfl, hA, hHa, hHb, hLn⟩ := hrel
    by_cases hin : i < n
    · have hwr : IntKind.i64.wrap ((i : Int) + 1) = (i : Int) + 1 := by rw [IntKind.wrap_i64]; omega
      obtain ⟨q, eq⟩ : ∃ q : Nat, n - 1 - i = q := ⟨_, rfl⟩
      have hq : q < n := by omega
      have hw1 : IntKind.i64.wrap ((n : Int) - 1) = (n : Int) - 1 := by rw [IntKind.wrap_i64]; omega
      have hw2 : IntKind.i64.wrap ((n : Int) - 1 - (i : Int)) = (q : Int) := by rw [IntKind.wrap_i64]; omega
      obtain ⟨b1, p1, hx1, hb1, hc1⟩ := hA.out.r.index_u16 (c := c) Hln.out hin
      obtain ⟨x, ex⟩ : ∃ x, l.getD i 0 = x := ⟨_, rfl⟩
      obtain ⟨y, ey⟩ : ∃ y, l.getD q 0 = y := ⟨_, rfl⟩
      have hxb : 0 ≤ x ∧ x < 65536 := Hbl.out x (by rw [← ex]; simp only [List.getD, List.getElem?_eq_getElem (show i < l.length by rw [Hln.out]; exact hin), Option.getD_some]; exact List.getElem_mem _)
      have hyb : 0 ≤ y ∧ y < 65536 := Hbl.out y (by rw [← ey]; simp only [List.getD, List.getElem?_eq_getElem (show q < l.length by rw [Hln.out]; exact hq), Option.getD_some]; exact List.getElem_mem _)
      rw [ex] at hc1
      have hLa := hLn.out.1
      have hLb := hLn.out.2
      have HsetA := Lib.hid (mset face (Z0 w) 0 ga 0 La _ _ wr hA.out.m rfl (by omega) (i : Int) x 0 (setW (i : Int) x La) ⟨by omega, by unfold topW; omega⟩ ⟨hxb.1, by unfold topW; omega⟩ (by unfold setE bigW; rw [if_neg (by omega)]) (by unfold setA bigW; rw [if_neg (by omega)]) rfl)
      have HHa := Lib.hid (show HasW l (fun e => 0 ≤ e ∧ e < ((i + 1 : Nat) : Int)) (setW (i : Int) x La) from by
        have h1 := hHa.out.set i
        rw [ex] at h1
        exact h1.congr (fun e => by omega))
      have HHb := Lib.hid (show HasW l (fun e => (n : Int) - ((i + 1 : Nat) : Int) ≤ e ∧ e < (n : Int)) (setW (q : Int) y Lb) from by
        have h1 := hHb.out.set q
        rw [ey] at h1
        exact h1.congr (fun e => by omega))
      have Hey := Lib.hid ey
      have Hxb := Lib.hid hxb
      have Hyb := Lib.hid hyb
      have hi64 : IntKind.u64.wrap (i : Int) = (i : Int) := by simp [IntKind.wrap, IntKind.bits, IntKind.signed]; omega
      have hq64 : IntKind.u64.wrap (q : Int) = (q : Int) := by simp [IntKind.wrap, IntKind.bits, IntKind.signed]; omega
      have hx64 : IntKind.u64.wrap x = x := by simp [IntKind.wrap, IntKind.bits, IntKind.signed]; omega
      have hy64 : IntKind.u64.wrap y = y := by simp [IntKind.wrap, IntKind.bits, IntKind.signed]; omega
      have hin2 : (i : Int) < (n : Int) := by omega
      have Heq := Lib.hid eq
      clear ex ey hxb hyb hLa hLb eq
      go_wp2_with fail
      refine HsetA.out.mono ?_
      rintro e w3 ⟨rfl, hm3, hb3⟩
      have HA3 := Lib.hid (show At w l A [(ga, 0, setW (i : Int) x La), (gb, 0, Lb)] w3 from hA.out.go hm3 hb3 Hrl.out)
      clear hm3 hb3 hc1 hx1
      obtain ⟨b2, p2, hx2, hb2, hc2⟩ := HA3.out.r.index_u16 (c := c) Hln.out hq
      rw [Hey.out] at hc2
      have HsetB := Lib.hid (mset face (Z0 w) 1 gb 0 Lb _ _ w3 HA3.out.m rfl (by have := hLn.out.2; omega) (q : Int) y 0 (setW (q : Int) y Lb) ⟨by omega, by unfold topW; omega⟩ ⟨Hyb.out.1, by have := Hyb.out.2; unfold topW; omega⟩ (by have := Hyb.out; unfold setE bigW; rw [if_neg (by omega)]) (by have := Hyb.out; unfold setA bigW; rw [if_neg (by omega)]) rfl)
      go_wp2_with fail
      refine HsetB.out.mono ?_
      rintro e w4 ⟨rfl, hm4, hb4⟩
      have HA4 := Lib.hid (show At w l A [(ga, 0, setW (i : Int) x La), (gb, 0, setW (q : Int) y Lb)] w4 from HA3.out.go hm4 hb4 Hrl.out)
      clear hm4 hb4 hc2 hx2
      go_wp2_with fail
      go_roundg (gk - 1)
      case measure => have := hgk.out; omega
      case rel => exact ⟨i + 1, _, _, Lib.hid (by have := hgk.out; show gk - 1 + (i + 1) = _; omega), by omega, by go_num, HA4, HHa, HHb, Lib.hid ⟨by have := setW_le (i : Int) x La; have := hLn.out.1; omega, by have := setW_le (q : Int) y Lb; have := hLn.out.2; omega⟩⟩
    · obtain rfl : i = n := by omega
      obtain rfl : La = Lb := hHa.out.one (hHb.out.congr (fun e => by omega))
      have hfin : decide ((i : Int) < (i : Int)) = false := by simp
      by_cases hn0 : i = 0
      · subst hn0
        have Hwk := Lib.hid (whwake_any face wr)
        clear hHb hHa
        go_wp2_with fail
        refine Hwk.out.mono ?_
        rintro e w3 ⟨rfl, hb3⟩
        have HB3 := Lib.hid (below_trans hA.out.b hb3)
        clear hb3
        go_wp2_with fail
        go_ret
        exact ⟨rfl, HB3.out⟩
      · have hk2 := bounds_u8 Hk.out
        obtain ⟨d, ed⟩ : ∃ d : Nat, (k % (i : Int)).toNat = d := ⟨_, rfl⟩
        have hm0 : 0 ≤ k % (i : Int) := Int.emod_nonneg _ (by omega)
        have hm1 : k % (i : Int) < (i : Int) := Int.emod_lt_of_pos _ (by omega)
        have hdt : k.tmod (i : Int) = (d : Int) := by rw [Int.tmod_eq_emod_of_nonneg hk2.1]; omega
        have hdi : (d : Int) < (i : Int) := by omega
        have hd64 : IntKind.u64.wrap (d : Int) = (d : Int) := by simp [IntKind.wrap, IntKind.bits, IntKind.signed]; omega
        have hk64 : IntKind.i64.wrap k = k := by rw [IntKind.wrap_i64]; omega
        have hag64 : IntKind.u64.wrap again = again := by simp [IntKind.wrap, IntKind.bits, IntKind.signed]; omega
        have hnz : ¬ (i : Int) = 0 := by omega
        have hnz2 : ((i : Int) == 0) = false := by simpa using hn0
        have hnz3 : ¬ i = 0 := hn0
        have hokL := hHa.out.1
        have hatd : atW (d : Int) La ≠ none := by rw [(hHa.out.2 (d : Int)).1 ⟨by omega, hdi⟩]; simp
        have hst : stopE (d : Int) La = 0 := by unfold stopE; rw [if_neg (fun e => hatd ((stop_len hokL).1 e))]
        have hse : setE again = 0 := by unfold setE bigW; rw [if_neg (by omega)]
        have hLa := hLn.out.1
        have hA0l : (stopW (d : Int) La).length ≤ 41 := by have := stopW_le (d : Int) La; omega
        have hC0l : (setW (d : Int) again La).length ≤ 41 := by have := setW_le (d : Int) again La; omega
        have hLb : ∀ a, a ∈ La → 0 ≤ a.2 ∧ a.2 < 65536 := fun a ha => by
          obtain ⟨h1, h2⟩ := hHa.out.mem ha
          rw [h2]
          refine Hbl.out _ ?_
          have h3 : a.1.toNat < l.length := by rw [Hln.out]; omega
          simp only [List.getD, List.getElem?_eq_getElem h3, Option.getD_some]
          exact List.getElem_mem _
        obtain ⟨L, eL⟩ : ∃ L, La = L := ⟨_, rfl⟩
        rw [eL] at hA hokL hst hA0l hC0l hLb hLa
        have hdt0 : 0 ≤ (d : Int) ∧ (d : Int) < topW := ⟨by omega, by unfold topW; omega⟩
        have hagt : 0 ≤ again ∧ again < topW := ⟨hag2.1, by unfold topW; omega⟩
        have Hst := Lib.hid hst
        have Hse := Lib.hid hse
        have HokL := Lib.hid hokL
        have HLb := Lib.hid hLb
        have HA0l := Lib.hid hA0l
        have HC0l := Lib.hid hC0l
        have Hcp := Lib.hid (mcopy face (Z0 w) 0 ga 0 L _ wr hA.out.m rfl (by omega))
        clear hHa hHb hLn hst hse hokL hLb hA0l hC0l hatd eL hm0 hm1 ed hk2 hn0
        go_wp2_with fail
        refine Hcp.out.mono ?_
        rintro e w3 ⟨gc, rfl, hm3, hb3⟩
        have H3 := Lib.hid (show At w l A [(ga, 0, L), (gb, 0, L), (gc, 0, L)] w3 from hA.out.go hm3 hb3 Hrl.out)
        clear hm3 hb3
        have Hs1 := Lib.hid (mstop face (Z0 w) 0 ga 0 L _ _ w3 H3.out.m rfl (by omega) (d : Int) 0 (stopW (d : Int) L) hdt0 Hst.out rfl rfl)
        go_wp2_with fail
        refine Hs1.out.mono ?_
        rintro e w4 ⟨rfl, hm4, hb4⟩
        have H4 := Lib.hid (show At w l A [(ga, 0, stopW (d : Int) L), (gb, 0, L), (gc, 0, L)] w4 from H3.out.go hm4 hb4 Hrl.out)
        clear hm4 hb4
        have Hs2 := Lib.hid (mstop face (Z0 w) 1 gb 0 L _ _ w4 H4.out.m rfl (by omega) (d : Int) 0 (stopW (d : Int) L) hdt0 Hst.out rfl rfl)
        go_wp2_with fail
        refine Hs2.out.mono ?_
        rintro e w5 ⟨rfl, hm5, hb5⟩
        have H5 := Lib.hid (show At w l A [(ga, 0, stopW (d : Int) L), (gb, 0, stopW (d : Int) L), (gc, 0, L)] w5 from H4.out.go hm5 hb5 Hrl.out)
        clear hm5 hb5
        have Hs3 := Lib.hid (mset face (Z0 w) 2 gc 0 L _ _ w5 H5.out.m rfl (by omega) (d : Int) again 0 (setW (d : Int) again L) hdt0 hagt Hse.out (by unfold setA bigW; rw [if_neg (by omega)]) rfl)
        go_wp2_with fail
        refine Hs3.out.mono ?_
        rintro e w6 ⟨rfl, hm6, hb6⟩
        have H6 := Lib.hid (show At w l A [(ga, 0, stopW (d : Int) L), (gb, 0, stopW (d : Int) L), (gc, 0, setW (d : Int) again L)] w6 from H5.out.go hm6 hb6 Hrl.out)
        clear hm6 hb6
        have Hcp2 := Lib.hid (mcopy face (Z0 w) 1 gb 0 (stopW (d : Int) L) _ w6 H6.out.m rfl (by have := HA0l.out; omega))
        go_wp2_with fail
        refine Hcp2.out.mono ?_
        rintro e w7 ⟨gd, rfl, hm7, hb7⟩
        have H7 := Lib.hid (show At w l A [(ga, 0, stopW (d : Int) L), (gb, 0, stopW (d : Int) L), (gc, 0, setW (d : Int) again L), (gd, 0, stopW (d : Int) L)] w7 from H6.out.go hm7 hb7 Hrl.out)
        clear hm7 hb7
        have Hs4 := Lib.hid (mset face (Z0 w) 3 gd 0 (stopW (d : Int) L) _ _ w7 H7.out.m rfl (by have := HA0l.out; omega) (d : Int) again 0 (setW (d : Int) again L) hdt0 hagt Hse.out (by unfold setA bigW; rw [if_neg (by omega), set_stop]) rfl)
        go_wp2_with fail
        refine Hs4.out.mono ?_
        rintro e w8 ⟨rfl, hm8, hb8⟩
        have H8 := Lib.hid (show At w l A [(ga, 0, stopW (d : Int) L), (gb, 0, stopW (d : Int) L), (gc, 0, setW (d : Int) again L), (gd, 0, setW (d : Int) again L)] w8 from H7.out.go hm8 hb8 Hrl.out)
        clear hm8 hb8 Hcp Hs1 Hs2 Hs3 Hcp2 Hs4 H3 H4 H5 H6 H7 hA
        go_wp2_with fail
        obtain ⟨A0, eA0⟩ : ∃ A0, stopW (d : Int) L = A0 := ⟨_, rfl⟩
        obtain ⟨C0, eC0⟩ : ∃ C0, setW (d : Int) again L = C0 := ⟨_, rfl⟩
        rw [eA0] at HA0l
        rw [eC0] at HC0l
        rw [eA0, eC0] at H8
        have EA0 := Lib.hid eA0
        have EC0 := Lib.hid eC0
        clear eA0 eC0
        have HgkO := Lib.hid hgk.out
        clear hgk
        go_loopg [14, 15, 16, 17, 18, 19, 20, 21, 22, 23, 24, 25] 17 (fun gk x14 x15 x16 x17 x18 x19 x20 x21 x22 x23 x24 x25 wr => ∃ s : Nat, Hid (gk + s = 17) ∧ s ≤ 17 ∧ x14 = .int .u64 (4096 * (s : Int)) ∧ Hid (Tk (Z0 w) w [(ga, clockW s, restW s A0), (gb, clockW s, restW s A0), (gc, clockW s, restW s C0), (gd, clockW s, restW s C0)] wr))
        case atStart => exact ⟨0, rfl, Nat.zero_le _, by simp, Lib.hid ⟨H8.out.m, H8.out.b, fun k hk => hk⟩⟩
        case round =>
          obtain ⟨s, hgk, hs, rfl, hT⟩ := hrel
          by_cases hs16 : s ≤ 16
          · have hle : decide (4096 * (s : Int) ≤ 65536) = true := decide_eq_true (by omega)
            have hle2 : 4096 * (s : Int) ≤ 65536 := by omega
            obtain ⟨tc, te, tA, tLA⟩ := tick_at hs16 A0
            obtain ⟨-, -, tC, tLC⟩ := tick_at hs16 C0
            obtain ⟨xs, exs⟩ : ∃ xs, (dueW (4096 * (s : Int)) (restW s A0)).map Prod.fst = xs := ⟨_, rfl⟩
            obtain ⟨us, eus⟩ : ∃ us, (dueW (4096 * (s : Int)) (restW s C0)).map Prod.fst = us := ⟨_, rfl⟩
            rw [exs] at tLA
            rw [eus] at tLC
            have hT0 : 0 ≤ 4096 * (s : Int) ∧ 4096 * (s : Int) < topW := ⟨by omega, by unfold topW; omega⟩
            have hAl : (restW s A0).length ≤ 1000000 := Nat.le_trans (restW_le s A0) (by have := HA0l.out; omega)
            have hCl : (restW s C0).length ≤ 1000000 := Nat.le_trans (restW_le s C0) (by have := HC0l.out; omega)
            have hxl : xs.length ≤ 1000000 := by rw [← exs, List.length_map]; exact Nat.le_trans (dueW_le _ _) hAl
            have hul : us.length ≤ 1000000 := by rw [← eus, List.length_map]; exact Nat.le_trans (dueW_le _ _) hCl
            have hagain := again_at HokL.out (d : Int) again s
            rw [EA0.out, EC0.out, eus] at hagain
            have HAg := Lib.hid (show ((d : Int) ∈ us ↔ again ≤ 4096 * (s : Int) ∧ (s = 0 ∨ clockW s < again)) ∧ ((d : Int) ∉ us → us.length = xs.length) from
              ⟨hagain.1, fun hno => by rw [← exs, ← eus, List.length_map, List.length_map]; exact hagain.2 hno⟩)
            clear hagain exs eus
            have hF := Lib.hid face
            have Htc := Lib.hid (And.intro tc (And.intro te (And.intro tA (And.intro tLA (And.intro tC tLC)))))
            have HAl := Lib.hid hAl
            have HCl := Lib.hid hCl
            have Hxl := Lib.hid hxl
            have Hul := Lib.hid hul
            clear tc te tA tLA tC tLC hAl hCl hxl hul
            go_wp2_with fail
            refine (mtick hF.out _ 0 ga _ _ _ _ wr hT.out.m rfl HAl.out (4096 * (s : Int)) _ 0 _ xs hT0 Htc.out.1 Htc.out.2.1 Htc.out.2.2.1 Htc.out.2.2.2.1 rfl).mono ?_
            rintro e w9 ⟨va, rfl, hva, -, hmT, hbT⟩
            have T1 := Lib.hid (hT.out.go hmT hbT (fun k hk => .inl hk))
            clear hmT hbT
            have Hva := Lib.hid hva
            clear hva
            go_wp2_with fail
            refine (mtick hF.out _ 1 gb _ _ _ _ w9 T1.out.m rfl HAl.out (4096 * (s : Int)) _ 0 _ xs hT0 Htc.out.1 Htc.out.2.1 Htc.out.2.2.1 Htc.out.2.2.2.1 rfl).mono ?_
            rintro e w10 ⟨vb, rfl, hvb, -, hmT, hbT⟩
            have T2 := Lib.hid (T1.out.go hmT hbT (fun k hk => .inl hk))
            have Hva2 := Lib.hid (keptS Hva.out hbT (fun b hb => .inr hb))
            have Hvb := Lib.hid hvb
            clear hmT hbT hvb Hva
            go_wp2_with fail
            refine (mtick hF.out _ 2 gc _ _ _ _ w10 T2.out.m rfl HCl.out (4096 * (s : Int)) _ 0 _ us hT0 Htc.out.1 Htc.out.2.1 Htc.out.2.2.2.2.1 Htc.out.2.2.2.2.2 rfl).mono ?_
            rintro e w11 ⟨vc, rfl, hvc, -, hmT, hbT⟩
            have T3 := Lib.hid (T2.out.go hmT hbT (fun k hk => .inl hk))
            have Hva3 := Lib.hid (keptS Hva2.out hbT (fun b hb => .inl (.inr hb)))
            have Hvb3 := Lib.hid (keptS Hvb.out hbT (fun b hb => .inr hb))
            have Hvc := Lib.hid hvc
            clear hmT hbT hvc Hva2 Hvb
            go_wp2_with fail
            refine (mtick hF.out _ 3 gd _ _ _ _ w11 T3.out.m rfl HCl.out (4096 * (s : Int)) _ 0 _ us hT0 Htc.out.1 Htc.out.2.1 Htc.out.2.2.2.2.1 Htc.out.2.2.2.2.2 rfl).mono ?_
            rintro e w12 ⟨vd, rfl, hvd, -, hmT, hbT⟩
            have T4 := Lib.hid (T3.out.go hmT hbT (fun k hk => .inl hk))
            have Hva4 := Lib.hid (keptS Hva3.out hbT (fun b hb => .inl (.inl (.inr hb))))
            have Hvb4 := Lib.hid (keptS Hvb3.out hbT (fun b hb => .inl (.inr hb)))
            have Hvc4 := Lib.hid (keptS Hvc.out hbT (fun b hb => .inr hb))
            have Hvd := Lib.hid hvd
            clear hmT hbT hvd Hva3 Hvb3 Hvc
            have HT5 := Lib.hid (show ∀ m, Tk (Z0 w) w [(ga, clockW (s + 1), restW (s + 1) A0), (gb, clockW (s + 1), restW (s + 1) A0), (gc, clockW (s + 1), restW (s + 1) C0), (gd, clockW (s + 1), restW (s + 1) C0)] (w12.drewN m) from fun m =>
              ⟨(T4.out.m.sub (fun k hk => .inl (.inl (.inl (.inl hk))))).but hF.out (T := fun _ => False) ((But.refl _ _).drewN m) (fun _ x => x.elim), below_drewW T4.out.b m, fun k hk => hk⟩)
            obtain ⟨Aa, ca, rfl, -⟩ := sl_read Hva4.out
            obtain ⟨Ac, cc, rfl, hcc⟩ := sl_read Hvc4.out
            have Hcc := Lib.hid hcc
            clear hcc
            have HSm1 := Lib.hid (same12_any _ _ xs xs true w12 Hva4.out Hvb4.out Hxl.out (decide_eq_true rfl))
            have HSm2 := Lib.hid (fun m => same12_any _ _ us us true (w12.drewN m) (Hvc4.out.but ((But.refl (fun _ => False) _).drewN m) (fun _ _ x => x)) (Hvd.out.but ((But.refl (fun _ => False) _).drewN m) (fun _ _ x => x)) Hul.out (decide_eq_true rfl))
            obtain ⟨nu, enu⟩ : ∃ nu, us.length = nu := ⟨_, rfl⟩
            obtain ⟨nx, enx⟩ : ∃ nx, xs.length = nx := ⟨_, rfl⟩
            rw [enu, enx] at HAg
            rw [enu] at Hcc
            simp only [enu] at HSm2
            simp only [enx] at HSm1
            have Henu := Lib.hid enu
            have hnu : nu ≤ 1000000 := by rw [← enu]; exact Hul.out
            clear T4 T3 T2 T1 hT Hva4 Hvb4 Hvc4 Hvd Htc HAl HCl Hxl Hul
            obtain rfl : gk = 17 - s := by have := hgk.out; omega
            clear hgk
            rw [enu, enx]
            clear enu enx
            go_wp2_with fail
            refine HSm1.out.mono ?_
            rintro e w13 ⟨rfl, m1, rfl⟩
            go_wp2_with fail
            refine (HSm2.out m1).mono ?_
            rintro e w13 ⟨rfl, m2, rfl⟩
            try rw [World.drewN_drewN]
            obtain ⟨wz, ewz⟩ : ∃ wz, w12.drewN (m1 + m2) = wz := ⟨_, rfl⟩
            have Hcz := Lib.hid (show ∀ i, i < nu → ∃ g o, Ac = some ⟨g, o, none⟩ ∧ wz.cell? ⟨g, o + i, none⟩ = some (.int .u64 (us.getD i 0)) from fun i hi => by
              obtain ⟨g, o, h1, h2⟩ := Hcc.out i hi
              exact ⟨g, o, h1, by rw [← ewz]; exact h2⟩)
            have HTz := Lib.hid (HT5.out (m1 + m2))
            rw [ewz] at HTz ⊢
            clear ewz Hcc HT5 HSm1 HSm2
            go_wp2_with fail
            go_loopg [23, 24] nu (fun gk x23 x24 wr => ∃ j : Nat, Hid (gk + j = nu) ∧ j ≤ nu ∧ x24 = .int .i64 (j : Int) ∧ x23 = .bool (decide ((d : Int) ∈ us.take j)) ∧ wr = wz)
            case atStart => exact ⟨0, rfl, Nat.zero_le _, rfl, by simp, rfl⟩
            case round =>
              obtain ⟨j, hgk, hj, rfl, rfl, rfl⟩ := hrel
              by_cases hjn : j < nu
              · obtain ⟨g1, o1, rfl, hc1⟩ := Hcz.out j hjn
                obtain ⟨y, ey⟩ : ∃ y, us.getD j 0 = y := ⟨_, rfl⟩
                rw [ey] at hc1
                have htk : us.take (j + 1) = us.take j ++ [y] := by
                  have hjl : j < us.length := by rw [Henu.out]; exact hjn
                  rw [List.take_succ_eq_append_getElem hjl, ← ey]
                  simp [List.getD, hjl]
                have j0 : (0 : Int) ≤ (j : Int) := by omega
                have j1 : (j : Int) < (nu : Int) := by omega
                have hwrj : IntKind.i64.wrap ((j : Int) + 1) = (j : Int) + 1 := by rw [IntKind.wrap_i64]; omega
                obtain ⟨bz, ebz⟩ : ∃ bz, decide ((d : Int) ∈ us.take j) = bz := ⟨_, rfl⟩
                rw [ebz]
                cases bz with
                | true =>
                  have Hn := Lib.hid (show decide ((d : Int) ∈ us.take (j + 1)) = true from decide_eq_true (by rw [htk]; exact List.mem_append_left _ (of_decide_eq_true ebz)))
                  clear htk ebz ey
                  go_wp2_with fail
                  go_roundg (gk - 1)
                  case measure => have := hgk.out; omega
                  case rel => exact ⟨j + 1, Lib.hid (by have := hgk.out; show gk - 1 + (j + 1) = _; omega), by omega, by go_num, by rw [Hn.out], rfl⟩
                | false =>
                  have hno := of_decide_eq_false ebz
                  by_cases hyd : y = (d : Int)
                  · have hyb : (y == (d : Int)) = true := by simpa using hyd
                    have Hn := Lib.hid (show decide ((d : Int) ∈ us.take (j + 1)) = true from decide_eq_true (by rw [htk, hyd]; simp))
                    clear htk ebz ey hno hyd
                    go_wp2_with fail
                    go_roundg (gk - 1)
                    case measure => have := hgk.out; omega
                    case rel => exact ⟨j + 1, Lib.hid (by have := hgk.out; show gk - 1 + (j + 1) = _; omega), by omega, by go_num, by rw [Hn.out], rfl⟩
                  · have hyb : (y == (d : Int)) = false := by simpa using hyd
                    have Hn := Lib.hid (show decide ((d : Int) ∈ us.take (j + 1)) = false from decide_eq_false (by
                      rw [htk, List.mem_append]
                      rintro (h | h)
                      · exact hno h
                      · simp at h; exact hyd h.symm))
                    clear htk ebz ey hno hyd
                    go_wp2_with fail
                    go_roundg (gk - 1)
                    case measure => have := hgk.out; omega
                    case rel => exact ⟨j + 1, Lib.hid (by have := hgk.out; show gk - 1 + (j + 1) = _; omega), by omega, by go_num, by rw [Hn.out], rfl⟩
              · obtain rfl : nu = j := by omega
                have hnn : decide ((nu : Int) < (nu : Int)) = false := by simp
                have htl : us.take nu = us := List.take_of_length_le (by rw [Henu.out]; exact Nat.le_refl _)
                rw [htl]
                obtain ⟨hb, ehb⟩ : ∃ hb, decide ((d : Int) ∈ us) = hb := ⟨_, rfl⟩
                rw [ehb]
                have hwr14 : IntKind.u64.wrap (4096 * (s : Int) + 4096) = 4096 * ((s + 1 : Nat) : Int) := by simp [IntKind.wrap, IntKind.bits, IntKind.signed]; omega
                have hcl : clockW s = 4096 * (s : Int) - 4096 ∨ s = 0 := by
                  cases s with
                  | zero => exact .inr rfl
                  | succ s => exact .inl (by show 4096 * (s : Int) = 4096 * ((s + 1 : Nat) : Int) - 4096; omega)
                have HTz' := HTz
                by_cases p1 : again ≤ 4096 * (s : Int)
                · have hd1 : decide (again ≤ 4096 * (s : Int)) = true := decide_eq_true p1
                  by_cases p2 : s = 0
                  · have hz0 : (4096 * (s : Int) == 0) = true := by simp [p2]
                    obtain rfl : hb = true := by rw [← ehb]; exact decide_eq_true (HAg.out.1.2 ⟨p1, .inl p2⟩)
                    clear htl ehb
                    by_cases p9 : nu = nx
                    · have hq9 : ((nu : Int) != (nx : Int)) = false := by simp [p9]
                      clear p9
                      go_wp2_with fail
                      go_roundg (17 - (s + 1))
                      case measure => omega
                      case rel => exact ⟨s + 1, Lib.hid (by omega), by omega, by first | rfl | (rw [p2]; rfl), HTz⟩
                    · have hq9 : ((nu : Int) != (nx : Int)) = true := by simp; omega
                      clear p9
                      go_wp2_with fail
                      go_roundg (17 - (s + 1))
                      case measure => omega
                      case rel => exact ⟨s + 1, Lib.hid (by omega), by omega, by first | rfl | (rw [p2]; rfl), HTz⟩
                  · have hz0 : (4096 * (s : Int) == 0) = false := by simp; omega
                    have hws : IntKind.u64.wrap (4096 * (s : Int) - 4096) = 4096 * (s : Int) - 4096 := by simp [IntKind.wrap, IntKind.bits, IntKind.signed]; omega
                    have hcl2 : clockW s = 4096 * (s : Int) - 4096 := hcl.resolve_right p2
                    by_cases p3 : 4096 * (s : Int) - 4096 < again
                    · have hd3 : decide (4096 * (s : Int) - 4096 < again) = true := decide_eq_true p3
                      obtain rfl : hb = true := by rw [← ehb]; exact decide_eq_true (HAg.out.1.2 ⟨p1, .inr (by rw [hcl2]; exact p3)⟩)
                      clear hcl hcl2
                      clear htl ehb
                      by_cases p9 : nu = nx
                      · have hq9 : ((nu : Int) != (nx : Int)) = false := by simp [p9]
                        clear p9
                        go_wp2_with fail
                        go_roundg (17 - (s + 1))
                        case measure => omega
                        case rel => exact ⟨s + 1, Lib.hid (by omega), by omega, by first | rfl | (rw [p2]; rfl), HTz⟩
                      · have hq9 : ((nu : Int) != (nx : Int)) = true := by simp; omega
                        clear p9
                        go_wp2_with fail
                        go_roundg (17 - (s + 1))
                        case measure => omega
                        case rel => exact ⟨s + 1, Lib.hid (by omega), by omega, by first | rfl | (rw [p2]; rfl), HTz⟩
                    · have hd3 : decide (4096 * (s : Int) - 4096 < again) = false := decide_eq_false p3
                      have hno : (d : Int) ∉ us := fun h => by
                        rcases (HAg.out.1.1 h).2 with h2 | h2
                        · exact p2 h2
                        · rw [hcl2] at h2; exact p3 h2
                      obtain rfl : hb = false := by rw [← ehb]; exact decide_eq_false hno
                      have hlen := HAg.out.2 hno
                      clear hcl hcl2 hno
                      clear htl ehb
                      have hq9 : ((nu : Int) != (nx : Int)) = false := by simp; omega
                      clear hlen
                      go_wp2_with fail
                      go_roundg (17 - (s + 1))
                      case measure => omega
                      case rel => exact ⟨s + 1, Lib.hid (by omega), by omega, by first | rfl | (rw [p2]; rfl), HTz⟩
                · have hd1 : decide (again ≤ 4096 * (s : Int)) = false := decide_eq_false p1
                  have hno : (d : Int) ∉ us := fun h => p1 (HAg.out.1.1 h).1
                  obtain rfl : hb = false := by rw [← ehb]; exact decide_eq_false hno
                  have hlen := HAg.out.2 hno
                  clear hno hcl
                  clear htl ehb
                  have hq9 : ((nu : Int) != (nx : Int)) = false := by simp; omega
                  clear hlen
                  go_wp2_with fail
                  go_roundg (17 - (s + 1))
                  case measure => omega
                  case rel => exact ⟨s + 1, Lib.hid (by omega), by omega, by first | rfl | (rw [p2]; rfl), HTz⟩
          · obtain rfl : s = 17 := by omega
            have hle : decide (4096 * (((17 : Nat)) : Int) ≤ 65536) = false := by decide
            have hAe : restW 17 A0 = [] := by
              rw [← EA0.out]
              exact rest_all (HokL.out.stop _).sort (fun a ha => (HLb.out a (mem_stop.1 ha).1).2)
            have hCe : restW 17 C0 = [] := by
              rw [← EC0.out]
              refine rest_all (HokL.out.set _ _).sort (fun a ha => ?_)
              rcases mem_set.1 ha with rfl | ⟨h1, _⟩
              · show again < 65536; omega
              · exact (HLb.out a h1).2
            rw [hAe, hCe] at hT
            have Hl1 := Lib.hid (mlen face (Z0 w) 0 ga _ [] _ wr hT.out.m rfl (by simp) 0 rfl)
            have Hl2 := Lib.hid (fun m => mlen face (Z0 w) 2 gc _ [] _ (wr.drewN m) (hT.out.m.but face (T := fun _ => False) ((But.refl _ _).drewN m) (fun _ x => x.elim)) rfl (by simp) 0 rfl)
            have Hwk := Lib.hid (fun m => whwake_any face (wr.drewN m))
            clear hAe hCe
            go_wp2_with fail
            refine Hl1.out.mono ?_
            rintro e w13 ⟨rfl, m1, rfl⟩
            go_wp2_with fail
            refine (Hl2.out m1).mono ?_
            rintro e w13 ⟨rfl, m2, rfl⟩
            try rw [World.drewN_drewN]
            go_wp2_with fail
            refine (Hwk.out (m1 + m2)).mono ?_
            rintro e w14 ⟨rfl, hb14⟩
            have HB14 := Lib.hid ((below_drewW hT.out.b (m1 + m2)).trans (hb14.mono hT.out.b.size))
            clear hb14
            go_wp2_with fail
            go_ret
            exact ⟨rfl, HB14.out⟩
theorem own : ownKnob Try.prog.godebug = none := by kernel_rfl
theorem laidOut : laidOutB Try.prog = true := by kernel_rfl

set_option maxRecDepth 100000 in
theorem lifted (os : Os) (started : os.Started) (H : Type) (enc : TypeId × Value → H) :
    ReturnsInHanded {} Try.checked os 5 .any (Rows.wheelOrderSpec.pre6 enc Try.prog Try.f5 Rows.wheelOrderRow.domain false) (Rows.wheelOrderSpec.post enc Try.prog Try.f5 false true false false) := by
  refine returnsInHanded_of_change (C := Try.checked) own started (by kernel_rfl) Try.func5
    (ChangeSpec.witness6 (enc := enc) (C := Try.checked) false ⟨#[], #[(.slice none 0 0), .int .u8 0, .int .u16 0], []⟩ 8 (by kernel_rfl) (by kernel_rfl) (by kernel_rfl) (by kernel_rfl)) ?_
  intro W base args ds gs before hval0 hW hcnd _
  have hval : ∀ (j : Nat) t v, Try.f5.params[j]? = some t → args[j]? = some v → Value.okWide Try.prog W .any base t v := hval0
  have hW' := hW
  obtain ⟨p, q, hA0, hV, rfl, hfz, hnd⟩ := hW
  have hA : DataW.TrodAll enc Try.prog W 0 (fun _ => true) true Try.f5.params.toList args.toList ds p := hA0
  rw [Try.params5] at hA hval
  obtain ⟨v0, vs0, d0, ds0, p0, q0, hargs, rfl, rfl, h0, r0⟩ := trodAll_cons hA
  obtain ⟨v1, vs1, d1, ds1, p1, q1, rfl, rfl, rfl, h1, r1⟩ := trodAll_cons r0
  obtain ⟨v2, vs2, d2, ds2, p2, q2, rfl, rfl, rfl, h2, r2⟩ := trodAll_cons r1
  obtain ⟨rfl, rfl, rfl⟩ := trodAll_nil r2
  obtain rfl : args = #[v0, v1, v2] := by cases args; simp_all
  obtain ⟨rfl, rfl⟩ := trodVars_none hV
  have k0 := nums_open_u16 (hval 0 50 v0 rfl rfl) h0
  have lt0 : ∀ x ∈ p0, x.block < W.heap.size := by obtain ⟨m, hm⟩ := h0; exact DataW.trod_lt m _ _ _ hm
  obtain ⟨a1, rfl, rfl, rfl, w1⟩ := open_int Try.underlying5 (hval 1 5 v1 rfl rfl) h1
  obtain ⟨a2, rfl, rfl, rfl, w2⟩ := open_int Try.underlying53 (hval 2 53 v2 rfl rfl) h2
  clear hA0 hval0
  refine (walk W v0 k0 a1 w1 a2 w2).mono fun e W' ⟨he, bel⟩ => ?_
  subst he
  exact ⟨_, rfl, _, _, _, [], _, [], hW', trodAll_mk1 (shut_bool Try.underlying4 _), (trodAll_cons_mk (Below.trod laidOut (by kernel_rfl) (of_decide_eq_true (by kernel_rfl)) h0 bel lt0) (trodAll_cons_mk (shut_int Try.underlying5 w1) (trodAll_cons_mk (shut_int Try.underlying53 w2) trodAll_mk0))), rfl, bel.frame _, fun h => by cases h⟩

theorem over : Rows.wheelOrderRow.holds Try.pinned (OpenSpec.ofChange Rows.wheelOrderSpec) :=
  OpenClaim.holds_of_wide 5 Try.f5 rfl rfl rfl rfl rfl rfl rfl ⟨rfl, rfl, rfl, rfl, rfl⟩ rfl rfl rfl rfl rfl (by kernel_rfl) Try.func5 (by kernel_rfl)
    (of_decide_eq_true (by kernel_rfl)) (by unfold Func.isWrapper; first | (rw [if_pos (by decide +kernel)]; kernel_rfl) | (rw [if_neg (by decide +kernel)]; exact ⟨rfl, rfl⟩))
    (fun os started H enc _ => lifted os started H enc)

/-- The statement. -/
theorem proved : Rows.WheelOrderSaid := over
#print axioms proved
end Go.Proofs.Ytlpgabbnldalhaa.wheelOrder
