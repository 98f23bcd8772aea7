/-
  The document's own buffer (culvertref18): Held.
-/
import Derived.Test.YtmmnicnebammhaaTk
import Derived.Test.YtmmnicnebammhaaRmRef
import Derived.Test.YtmmnicnebammhaaRmPre
namespace Go.Proofs.Ytmmnicnebammhaa
set_option maxRecDepth 10000
open Go.RowKit
set_option linter.unusedSimpArgs false
set_option linter.unusedVariables false

/-- What the loop holds on to. -/
structure HeldR (w : World) (v : Value) (l : List (Int × Int)) (wr : World) : Prop where
  sl : SlV wr 60 2 v l.length (flat2 l)
  own : ∀ b, v.ownBlock = some b → w.heap.size ≤ b
  old : Below w.heap.size w wr
theorem wpred {n : Nat} (i j : Nat) (h : i = j + 1) (hn : n ≤ 16384) (hi : i < n) : wrap64 ((i : Int) - 1) = (j : Int) := by rw [IntWalk.wrap64_in _ (by omega)]; omega
set_option maxHeartbeats 2000000 in
theorem rheld18_is (g : Nat) (at_ : Int) (L : BL) (vI vB : Value) (w : World) (h1 : w.heap[g]? = some (.cells #[.int .u32 at_, vI, vB] 37 (0, 0))) (h2 : SlV w 4 1 vI L.length (isV L)) (hn : L.length ≤ 16384) :
    Calls Try.prog 22 #[.pointer (some ⟨g, 0, none⟩)] w (fun e w' => ∃ v, e = .returned v ∧ HeldR w v (heldI at_ L) w') := by
  obtain ⟨n, en⟩ : ∃ n, L.length = n := ⟨_, rfl⟩
  rw [en] at h2 hn
  obtain ⟨A, c, rfl, hi⟩ := bool_index h2 en
  have HC := Lib.hid (fun W (hW : Below w.heap.size w W) => show W.cell? ⟨g, 0, none⟩ = some (.int .u32 at_) ∧ W.cell? ⟨g, 1, none⟩ = some (.slice A n c) from ⟨by rw [blk_cell (blk_on h1 hW)]; rfl, by rw [blk_cell (blk_on h1 hW)]; rfl⟩)
  have Hi := Lib.hid (fun W (hW : Below w.heap.size w W) j (hj : j < n) => show ∃ g o, A = some ⟨g, o, none⟩ ∧ (∀ W : World, (Instr.indexAt 35 (.slice A n c) (.int .i64 (j : Int))).run Try.prog W = .ok (.pointer (some ⟨g, o + j, none⟩)) W) ∧ W.cell? ⟨g, o + j, none⟩ = some (.bool (isB L j)) from by
    obtain ⟨g2, o, e, k1, k2⟩ := hi j hj
    subst e
    have hlt := World.block_lt_of_cell? w _ k2
    exact ⟨g2, o, rfl, k1, (hW.cell (p := ⟨g2, o + j, none⟩) hlt).trans k2⟩)
  have Hen := Lib.hid en
  have Hn := Lib.hid hn
  clear h1 h2 hi en hn
  go_enter Try.func22, Try.ntmps22
  go_wp2_with fail
  go_loopg [3, 4] n (fun gk x3 x4 wr => ∃ (i : Nat) (v : Value), Hid (gk + i = n + 1) ∧ Hid (1 ≤ i ∧ (i = 1 ∨ i ≤ n)) ∧ x4 = .int .i64 (i : Int) ∧ v = x3 ∧ Hid (HeldR w v (preH at_ L i) wr))
  case atStart => exact ⟨1, _, Lib.hid rfl, Lib.hid ⟨Nat.le_refl _, .inl rfl⟩, rfl, rfl, Lib.hid ⟨by rw [preH_one]; exact .inl ⟨rfl, rfl, rfl⟩, fun b hb => (by cases hb), Below.refl _ _⟩⟩
  case round =>
    obtain ⟨i, v, hgk, hi1, rfl, rfl, HH⟩ := hrel
    obtain rfl : gk = n + 1 - i := by have := hgk.out; omega
    have hin : i ≤ n + 1 := by have := hgk.out; omega
    have hn2 : n ≤ 16384 := Hn.out
    have hi2 : 1 ≤ i := hi1.out.1
    have hi4 := hi1.out.2
    clear hgk
    obtain ⟨c0, c1⟩ := HC.out _ HH.out.old
    have i0 : (0 : Int) ≤ (i : Int) := by omega
    by_cases hi3 : i < n
    · have i1 : (i : Int) < (n : Int) := by omega
      have i2 : (i : Int) < 20000 := by omega
      obtain ⟨j, ej⟩ : ∃ j, i = j + 1 := ⟨i - 1, by omega⟩
      have Ej := Lib.hid ej
      obtain ⟨g2, o2, rfl, hx, hc⟩ := Hi.out _ HH.out.old i hi3
      obtain ⟨g3, o3, e3, hx3, hc3⟩ := Hi.out _ HH.out.old j (by omega)
      injection e3 with e3
      injection e3 with e31 e32
      subst e31
      subst e32
      have hij : i - 1 = j := by omega
      rw [show (j : Int) = (i : Int) - 1 by omega] at hx3
      have i3 : (1 : Int) ≤ (i : Int) := by omega
      clear ej
      cases hbi : isB L i with
      | false =>
        rw [hbi] at hc
        have hb : beginB L i = false := by unfold beginB; rw [hbi]; simp
        have HH2 := Lib.hid (show HeldR w v (preH at_ L (i + 1)) wr by rw [preH_no hb]; exact HH.out)
        clear hb hij
        go_wp2_with fail
        go_roundg (n + 1 - (i + 1))
        case measure => omega
        case rel => exact ⟨i + 1, v, Lib.hid (by omega), Lib.hid (by omega), by go_num, rfl, HH2⟩
      | true =>
        rw [hbi] at hc
        cases hbj : isB L j with
        | true =>
          rw [hbj] at hc3
          have hb : beginB L i = false := by unfold beginB; rw [hbi, hij, hbj]; simp
          have HH2 := Lib.hid (show HeldR w v (preH at_ L (i + 1)) wr by rw [preH_no hb]; exact HH.out)
          clear hb hij hi4
          go_wp2_with fail
          go_roundg (n + 1 - (i + 1))
          case measure => omega
          case rel => exact ⟨i + 1, v, Lib.hid (by omega), Lib.hid (by omega), by go_num, rfl, HH2⟩
        | false =>
          rw [hbj] at hc3
          have hb : beginB L i = true := by unfold beginB; rw [hbi, hij, hbj]; simp; omega
          have Hb := Lib.hid hb
          clear hb hij
          obtain ⟨wo, hwo⟩ : ∃ wo, wo = wr := ⟨_, rfl⟩
          subst hwo
          clear hi4
          go_wp2_with fail
          go_loopg [5] (n - i) (fun gi x5 wi => ∃ k : Nat, Hid (gi + k = n) ∧ Hid (i ≤ k) ∧ x5 = .int .i64 (k : Int) ∧ Hid (∀ p, i ≤ p → p < k → isB L p = true) ∧ wi = wo)
          case atStart => exact ⟨i, Lib.hid (by omega), Lib.hid (Nat.le_refl _), rfl, Lib.hid (fun p h1 h2 => absurd h1 (by omega)), rfl⟩
          case round =>
            obtain ⟨k, hgi, hik, rfl, hall, hwi⟩ := hrel
            subst hwi
            obtain rfl : gk = n - k := by have := hgi.out; omega
            have hkn : k ≤ n := by have := hgi.out; omega
            have hik2 : i ≤ k := hik.out
            clear hgi
            have j0 : (0 : Int) ≤ (k : Int) := by omega
            by_cases hk : k < n
            · have j1 : (k : Int) < (n : Int) := by omega
              have j2 : (k : Int) < 20000 := by omega
              obtain ⟨g4, o4, e4, hx4, hc4⟩ := Hi.out _ HH.out.old k hk
              injection e4 with e4
              injection e4 with e41 e42
              subst e41
              subst e42
              cases hbk : isB L k with
              | true =>
                rw [hbk] at hc4
                have Ha := Lib.hid (show ∀ p, i ≤ p → p < k + 1 → isB L p = true from fun p q1 q2 => by
                  by_cases e : p = k
                  · rw [e]; exact hbk
                  · exact hall.out p q1 (by omega))
                go_wp2_with fail
                go_roundg (n - (k + 1))
                case measure => omega
                case rel => exact ⟨k + 1, Lib.hid (by omega), Lib.hid (by omega), by go_num, Ha, rfl⟩
              | false =>
                rw [hbk] at hc4
                have hrr : i + readyB (L.drop i) = k := by
                  have : readyB (L.drop i) = k - i := ready_of (fun p hp => by rw [isB_drop]; exact hall.out _ (by omega) (by omega)) (by rw [isB_drop, show i + (k - i) = k by omega]; exact hbk)
                  omega
                have Hrr := Lib.hid hrr
                clear hrr
                go_wp2_with fail
                obtain ⟨A2, c2, rfl⟩ := HH.out.sl.form
                have c0r := (HC.out _ HH.out.old).1
                obtain ⟨p1, e1⟩ : ∃ x, num32 (at_ + (i : Nat)) = x := ⟨_, rfl⟩
                obtain ⟨p2, e2⟩ : ∃ x, num32 (at_ + (k : Nat)) = x := ⟨_, rfl⟩
                have hpre := preH_yes (at_ := at_) Hb.out
                rw [Hrr.out, e1, e2] at hpre
                obtain ⟨m, em⟩ : ∃ x, (preH at_ L i).length = x := ⟨_, rfl⟩
                have hm : m ≤ 20000 := by rw [← em]; have := preH_le at_ L i; omega
                obtain ⟨w6, ew6⟩ : ∃ x, wr.drew = x := ⟨_, rfl⟩
                have hb6 : Below w.heap.size w w6 := by rw [← ew6]; exact HH.out.old.drew
                have hsz : w.heap.size ≤ w6.heap.size := hb6.size
                have hbA : But (fun _ => False) wr (w6.alloc (.cells #[.int .u32 p1, .int .u32 p2] 60)) := by rw [← ew6]; exact ((But.refl _ _).drew).alloc _
                have hsl := HH.out.sl.but hbA (fun _ _ h => h)
                rw [em] at hsl
                obtain ⟨A3, c3, w7, hrun, hs7, hb7, ho7, -⟩ := sv_app (P := Try.prog) (w6.alloc (.cells #[.int .u32 p1, .int .u32 p2] 60)) 47 47 60 (.agg #[.int .u32 0, .int .u32 0]) 2 8 Try.underlying47 info_pair (by omega) rfl
                  (.slice A2 m c2) (.slice (some ⟨w6.heap.size, 0, none⟩) 1 1) m 1 (flat2 (preH at_ L i)) (flat2 [(p1, p2)]) hsl (RowV.one 60 (flat2 [(p1, p2)]) w6.heap.size rfl rfl) (by intro u hu; simp [flat2] at hu; rcases hu with rfl | rfl <;> rfl) (by omega)
                have hb7w : Below w.heap.size w w7 := (hb6.alloc hsz _).trans (hb7.below (fun b hb => HH.out.own b (by rw [em]; exact hb)) (by simp; omega))
                have HH9 := Lib.hid (show HeldR w (.slice A3 (m + 1) c3) (preH at_ L (i + 1)) w7 from ⟨by
                    rw [hpre, List.length_append, em, flat2_app]
                    exact hs7, fun b hb => by
                    rcases ho7 with e | e
                    · rw [e] at hb
                      exact HH.out.own b (by rw [em]; exact hb)
                    · rw [e] at hb
                      injection hb with hb
                      have : (w6.alloc (.cells #[.int .u32 p1, .int .u32 p2] 60)).heap.size = w6.heap.size + 1 := by simp
                      omega, hb7w⟩)
                have HS7 := Lib.hid (HC.out _ hb7w).1
                have HSA := Lib.hid (HC.out _ (hb6.alloc hsz (.cells #[.int .u32 p1, .int .u32 p2] 60))).1
                have HS6 := Lib.hid (HC.out _ hb6).1
                have Hrun := Lib.hid hrun
                have Ew6 := Lib.hid ew6
                have z1 := w32R i (by omega)
                have z2 := w32R k (by omega)
                have z3 : IntKind.u32.wrap (at_ + (i : Int)) = p1 := (num32R _).trans e1
                have z4 : IntKind.u32.wrap (at_ + (k : Int)) = p2 := (num32R _).trans e2
                rw [em]
                clear hpre hb6 hsz hbA hsl hrun hs7 hb7 ho7 hb7w e1 e2 ew6 c0r
                refine wp_region_held_drew (S := fun w' => w'.cell? ⟨g, 0, none⟩ = some (.int .u32 at_)) (by kernel_rfl) (by rw [Ew6.out]; exact HS6.out) (fun hHeld => ?_)
                rw [Ew6.out] at hHeld ⊢
                refine tk 0 ?_ rfl ?_ ?_
                rotate_left
                · intro w' hSw; (go_simp <;> (with_reducible rfl))
                try simp only [Act.put, putL]
                refine tk 1 ?_ rfl ?_ ?_
                rotate_left
                · intro w' hSw; (go_simp <;> (with_reducible rfl))
                try simp only [Act.put, putL]
                refine tk 2 ?_ rfl ?_ ?_
                rotate_left
                · intro w' hSw; (go_simp <;> (with_reducible rfl))
                try simp only [Act.put, putL]
                refine tk 3 ?_ rfl ?_ ?_
                rotate_left
                · intro w' hSw; (go_simp <;> (with_reducible rfl))
                try simp only [Act.put, putL]
                refine tk 4 ?_ rfl ?_ ?_
                rotate_left
                · intro w' hSw; (go_simp <;> (with_reducible rfl))
                try simp only [Act.put, putL]
                refine tk 5 ?_ rfl ?_ ?_
                rotate_left
                · intro w' hSw; (go_simp <;> (with_reducible rfl))
                try simp only [Act.put, putL]
                refine tk 6 ?_ rfl ?_ ?_
                rotate_left
                · intro w' hSw; (go_simp <;> (with_reducible rfl))
                try simp only [Act.put, putL]
                refine tk 7 ?_ rfl ?_ ?_
                rotate_left
                · intro w' hSw; (go_simp <;> (with_reducible rfl))
                try simp only [Act.put, putL]
                refine tk 8 ?_ rfl ?_ ?_
                rotate_left
                · intro w' hSw; (go_simp <;> (with_reducible rfl))
                try simp only [Act.put, putL]
                refine tk 9 ?_ rfl ?_ ?_
                rotate_left
                · intro w' hSw; (go_simp <;> (with_reducible rfl))
                try simp only [Act.put, putL]
                refine tk 10 ?_ rfl ?_ ?_
                rotate_left
                · intro w' hSw; (go_simp <;> (with_reducible rfl))
                try simp only [Act.put, putL]
                refine tk 11 ?_ rfl ?_ ?_
                rotate_left
                · intro w' hSw; (go_simp <;> (with_reducible rfl))
                try simp only [Act.put, putL]
                refine tk 12 ?_ rfl ?_ ?_
                rotate_left
                · intro w' hSw; (go_simp <;> (with_reducible rfl))
                try simp only [Act.put, putL]
                refine tk 13 ?_ rfl ?_ ?_
                rotate_left
                · intro w' hSw; (go_simp <;> (with_reducible rfl))
                try simp only [Act.put, putL]
                refine tk 14 ?_ rfl ?_ ?_
                rotate_left
                · intro w' hSw; (go_simp <;> (with_reducible rfl))
                try simp only [Act.put, putL]
                refine tk 15 ?_ rfl ?_ ?_
                rotate_left
                · intro w' hSw; (go_simp <;> (with_reducible rfl))
                try simp only [Act.put, putL]
                refine tkC 16 rfl (fun K hK => ?_)
                go_simp
                skip
                refine hK.out _ _ ?_ (fun hHeld => ?_)
                · exact HSA.out
                clear hK K
                try simp only [Act.put, putL]
                refine tkC 17 rfl (fun K hK => ?_)
                refine step_appX rfl (.tmp 52) (.tmp 68) _ _ rfl rfl _ _ _ w7 rfl rfl Hrun.out ?_
                refine hK.out _ _ ?_ (fun hHeld => ?_)
                · exact HS7.out
                clear hK K
                try simp only [Act.put, putL]
                refine tk 18 ?_ rfl ?_ ?_
                rotate_left
                · intro w' hSw; (go_simp <;> (with_reducible rfl))
                try simp only [Act.put, putL]
                refine wpAnyH_done (by kernel_rfl) ?_ _
                clear hHeld z1 z2 z3 z4
                go_wp2_with fail
                go_roundg (n + 1 - (i + 1))
                case measure => omega
                case rel => exact ⟨i + 1, _, Lib.hid (by omega), Lib.hid (by omega), by go_num, rfl, HH9⟩
            · have ekn : n ≤ k := by omega
              have j1 : ¬ (k : Int) < (n : Int) := by omega
              have hrr : i + readyB (L.drop i) = k := by
                have : readyB (L.drop i) = k - i := ready_of (fun p hp => by rw [isB_drop]; exact hall.out _ (by omega) (by omega)) (by
                  rw [isB_drop, show i + (k - i) = k by omega]
                  unfold isB
                  rw [List.getD, List.getElem?_eq_none (by rw [Hen.out]; exact ekn)]
                  rfl)
                omega
              have Hrr := Lib.hid hrr
              clear hrr
              go_wp2_with fail
              obtain ⟨A2, c2, rfl⟩ := HH.out.sl.form
              have c0r := (HC.out _ HH.out.old).1
              obtain ⟨p1, e1⟩ : ∃ x, num32 (at_ + (i : Nat)) = x := ⟨_, rfl⟩
              obtain ⟨p2, e2⟩ : ∃ x, num32 (at_ + (k : Nat)) = x := ⟨_, rfl⟩
              have hpre := preH_yes (at_ := at_) Hb.out
              rw [Hrr.out, e1, e2] at hpre
              obtain ⟨m, em⟩ : ∃ x, (preH at_ L i).length = x := ⟨_, rfl⟩
              have hm : m ≤ 20000 := by rw [← em]; have := preH_le at_ L i; omega
              obtain ⟨w6, ew6⟩ : ∃ x, wr.drew = x := ⟨_, rfl⟩
              have hb6 : Below w.heap.size w w6 := by rw [← ew6]; exact HH.out.old.drew
              have hsz : w.heap.size ≤ w6.heap.size := hb6.size
              have hbA : But (fun _ => False) wr (w6.alloc (.cells #[.int .u32 p1, .int .u32 p2] 60)) := by rw [← ew6]; exact ((But.refl _ _).drew).alloc _
              have hsl := HH.out.sl.but hbA (fun _ _ h => h)
              rw [em] at hsl
              obtain ⟨A3, c3, w7, hrun, hs7, hb7, ho7, -⟩ := sv_app (P := Try.prog) (w6.alloc (.cells #[.int .u32 p1, .int .u32 p2] 60)) 47 47 60 (.agg #[.int .u32 0, .int .u32 0]) 2 8 Try.underlying47 info_pair (by omega) rfl
                (.slice A2 m c2) (.slice (some ⟨w6.heap.size, 0, none⟩) 1 1) m 1 (flat2 (preH at_ L i)) (flat2 [(p1, p2)]) hsl (RowV.one 60 (flat2 [(p1, p2)]) w6.heap.size rfl rfl) (by intro u hu; simp [flat2] at hu; rcases hu with rfl | rfl <;> rfl) (by omega)
              have hb7w : Below w.heap.size w w7 := (hb6.alloc hsz _).trans (hb7.below (fun b hb => HH.out.own b (by rw [em]; exact hb)) (by simp; omega))
              have HH9 := Lib.hid (show HeldR w (.slice A3 (m + 1) c3) (preH at_ L (i + 1)) w7 from ⟨by
                  rw [hpre, List.length_append, em, flat2_app]
                  exact hs7, fun b hb => by
                  rcases ho7 with e | e
                  · rw [e] at hb
                    exact HH.out.own b (by rw [em]; exact hb)
                  · rw [e] at hb
                    injection hb with hb
                    have : (w6.alloc (.cells #[.int .u32 p1, .int .u32 p2] 60)).heap.size = w6.heap.size + 1 := by simp
                    omega, hb7w⟩)
              have HS7 := Lib.hid (HC.out _ hb7w).1
              have HSA := Lib.hid (HC.out _ (hb6.alloc hsz (.cells #[.int .u32 p1, .int .u32 p2] 60))).1
              have HS6 := Lib.hid (HC.out _ hb6).1
              have Hrun := Lib.hid hrun
              have Ew6 := Lib.hid ew6
              have z1 := w32R i (by omega)
              have z2 := w32R k (by omega)
              have z3 : IntKind.u32.wrap (at_ + (i : Int)) = p1 := (num32R _).trans e1
              have z4 : IntKind.u32.wrap (at_ + (k : Int)) = p2 := (num32R _).trans e2
              rw [em]
              clear hpre hb6 hsz hbA hsl hrun hs7 hb7 ho7 hb7w e1 e2 ew6 c0r
              refine wp_region_held_drew (S := fun w' => w'.cell? ⟨g, 0, none⟩ = some (.int .u32 at_)) (by kernel_rfl) (by rw [Ew6.out]; exact HS6.out) (fun hHeld => ?_)
              rw [Ew6.out] at hHeld ⊢
              refine tk 0 ?_ rfl ?_ ?_
              rotate_left
              · intro w' hSw; (go_simp <;> (with_reducible rfl))
              try simp only [Act.put, putL]
              refine tk 1 ?_ rfl ?_ ?_
              rotate_left
              · intro w' hSw; (go_simp <;> (with_reducible rfl))
              try simp only [Act.put, putL]
              refine tk 2 ?_ rfl ?_ ?_
              rotate_left
              · intro w' hSw; (go_simp <;> (with_reducible rfl))
              try simp only [Act.put, putL]
              refine tk 3 ?_ rfl ?_ ?_
              rotate_left
              · intro w' hSw; (go_simp <;> (with_reducible rfl))
              try simp only [Act.put, putL]
              refine tk 4 ?_ rfl ?_ ?_
              rotate_left
              · intro w' hSw; (go_simp <;> (with_reducible rfl))
              try simp only [Act.put, putL]
              refine tk 5 ?_ rfl ?_ ?_
              rotate_left
              · intro w' hSw; (go_simp <;> (with_reducible rfl))
              try simp only [Act.put, putL]
              refine tk 6 ?_ rfl ?_ ?_
              rotate_left
              · intro w' hSw; (go_simp <;> (with_reducible rfl))
              try simp only [Act.put, putL]
              refine tk 7 ?_ rfl ?_ ?_
              rotate_left
              · intro w' hSw; (go_simp <;> (with_reducible rfl))
              try simp only [Act.put, putL]
              refine tk 8 ?_ rfl ?_ ?_
              rotate_left
              · intro w' hSw; (go_simp <;> (with_reducible rfl))
              try simp only [Act.put, putL]
              refine tk 9 ?_ rfl ?_ ?_
              rotate_left
              · intro w' hSw; (go_simp <;> (with_reducible rfl))
              try simp only [Act.put, putL]
              refine tk 10 ?_ rfl ?_ ?_
              rotate_left
              · intro w' hSw; (go_simp <;> (with_reducible rfl))
              try simp only [Act.put, putL]
              refine tk 11 ?_ rfl ?_ ?_
              rotate_left
              · intro w' hSw; (go_simp <;> (with_reducible rfl))
              try simp only [Act.put, putL]
              refine tk 12 ?_ rfl ?_ ?_
              rotate_left
              · intro w' hSw; (go_simp <;> (with_reducible rfl))
              try simp only [Act.put, putL]
              refine tk 13 ?_ rfl ?_ ?_
              rotate_left
              · intro w' hSw; (go_simp <;> (with_reducible rfl))
              try simp only [Act.put, putL]
              refine tk 14 ?_ rfl ?_ ?_
              rotate_left
              · intro w' hSw; (go_simp <;> (with_reducible rfl))
              try simp only [Act.put, putL]
              refine tk 15 ?_ rfl ?_ ?_
              rotate_left
              · intro w' hSw; (go_simp <;> (with_reducible rfl))
              try simp only [Act.put, putL]
              refine tkC 16 rfl (fun K hK => ?_)
              go_simp
              skip
              refine hK.out _ _ ?_ (fun hHeld => ?_)
              · exact HSA.out
              clear hK K
              try simp only [Act.put, putL]
              refine tkC 17 rfl (fun K hK => ?_)
              refine step_appX rfl (.tmp 52) (.tmp 68) _ _ rfl rfl _ _ _ w7 rfl rfl Hrun.out ?_
              refine hK.out _ _ ?_ (fun hHeld => ?_)
              · exact HS7.out
              clear hK K
              try simp only [Act.put, putL]
              refine tk 18 ?_ rfl ?_ ?_
              rotate_left
              · intro w' hSw; (go_simp <;> (with_reducible rfl))
              try simp only [Act.put, putL]
              refine wpAnyH_done (by kernel_rfl) ?_ _
              clear hHeld z1 z2 z3 z4
              go_wp2_with fail
              go_roundg (n + 1 - (i + 1))
              case measure => omega
              case rel => exact ⟨i + 1, _, Lib.hid (by omega), Lib.hid (by omega), by go_num, rfl, HH9⟩
    · have hall : preH at_ L i = heldI at_ L := by
        rw [preH_all, Hen.out]
        by_cases e : n = 0
        · subst e
          obtain rfl : i = 1 := by omega
          rw [preH_one]
          rfl
        · congr 1
          omega
      have i1 : ¬ (i : Int) < (n : Int) := by omega
      have HE := Lib.hid (show HeldR w v (heldI at_ L) wr from by rw [← hall]; exact HH.out)
      clear hall
      go_wp2_with fail
      go_ret
      exact ⟨v, rfl, HE.out⟩
theorem rheld18_any (S : Nat → Prop) (g : Nat) (at_ : Int) (L : BL) (w : World) (h : RefR w S g at_ L) (hn : L.length ≤ 16384) :
    Calls Try.prog 22 #[.pointer (some ⟨g, 0, none⟩)] w (BHelds RefR S g at_ L (heldI at_ L) w) := by
  have HR := h
  obtain ⟨vI, vB, h1, h2, h3, h4, h5, h6, h7⟩ := h
  refine (rheld18_is g at_ L vI vB w h1 h2 hn).mono ?_
  rintro e wr ⟨v, rfl, HH⟩
  exact ⟨v, rfl, HH.sl, S, HR.but (But.of (S := fun _ => False) HH.old) (fun _ _ h => h), But.of HH.old, fun k hk => .inl hk, fun b hb => ⟨HH.own b hb, fun hs => by
    have h1 := HH.own b hb
    have := h7 b hs
    omega⟩⟩
end Go.Proofs.Ytmmnicnebammhaa
