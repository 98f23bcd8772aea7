/-
  The document's own buffer (culvertref18): Put.
-/
import Derived.Test.YtmmnicnebammhaaRmRefHeld
import Derived.Test.YtmmnicnebammhaaRmPutP
namespace Go.Proofs.Ytmmnicnebammhaa
set_option maxRecDepth 10000
open Go.RowKit
set_option linter.unusedSimpArgs false
set_option linter.unusedVariables false

theorem slv_at {w : World} {T : TypeId} {A : Option Addr} {n c : Nat} {vs : List Value} (h : SlV w T 1 (.slice A n c) n vs) {j : Nat} (hj : j < n) :
    ∃ g o, A = some ⟨g, o, none⟩ ∧ w.cell? ⟨g, o + j, none⟩ = vs[j]? ∧ w.frozen? ⟨g, o + j, none⟩ = false ∧ ∀ y, SlV (w.setCell ⟨g, o + j, none⟩ y) T 1 (.slice A n c) n (vs.set j y) := by
  rcases h with ⟨_, rfl, _⟩ | ⟨g, o, c', e, C, hg, hC, hl, hnc, hm, hc⟩
  · omega
  · injection e with e1 e2 e3
    subst e1
    subst e3
    refine ⟨g, o, rfl, by rw [blk_cell hg]; exact hc j (by omega), blk_free hg _, fun y => .inr ⟨g, o, c, rfl, _, heap_setCell_at hg _ _, by simpa using hC, by simpa using hl, hnc, hm, fun x hx => ?_⟩⟩
    rw [List.length_set] at hx
    by_cases e : j = x
    · subst e
      rw [Array.getElem?_setIfInBounds_self_of_lt (by omega), List.getElem?_set_self hx]
    · rw [Array.getElem?_setIfInBounds_ne (by omega), hc x hx, List.getElem?_set_ne e]
theorem run_bo (g o n c j : Nat) (h : j < n) (W : World) : (Instr.indexAt 35 (.slice (some ⟨g, o, none⟩) n c) (.int .i64 (j : Int))).run Try.prog W = .ok (.pointer (some ⟨g, o + j, none⟩)) W := by
  have k0 : (0 : Int) ≤ (j : Int) := by omega
  have k1 : (j : Int) < (n : Int) := by omega
  go_simp
theorem run_by (g o n c j : Nat) (h : j < n) (W : World) : (Instr.indexAt 32 (.slice (some ⟨g, o, none⟩) n c) (.int .i64 (j : Int))).run Try.prog W = .ok (.pointer (some ⟨g, o + j, none⟩)) W := by
  have k0 : (0 : Int) ≤ (j : Int) := by omega
  have k1 : (j : Int) < (n : Int) := by omega
  go_simp
/-- What the loop holds on to. -/
structure PutS (w : World) (vI vB : Value) (M : BL) (wr : World) : Prop where
  isl : SlV wr 4 1 vI M.length (isV M)
  byl : SlV wr 5 1 vB M.length (byV M)
  oI : ∀ b, vI.ownBlock = some b → w.heap.size ≤ b
  oB : ∀ b, vB.ownBlock = some b → w.heap.size ≤ b
  old : Below w.heap.size w wr
theorem slv_apart {w : World} {T T' : TypeId} {n m b : Nat} {v v' : Value} {vs us : List Value} (h : SlV w T 1 v n vs) (h' : SlV w T' 1 v' m us) (hT : T ≠ T') (hb : v.ownBlock = some b) : ¬ v'.ownBlock = some b := by
  intro e
  rcases h' with ⟨rfl, _⟩ | ⟨g2, o, c, rfl, C, hC, _⟩
  · cases e
  · injection e with e
    subst e
    exact slv_ne h hC hT g2 hb rfl
/-- One place more. -/
theorem PutS.more {w wr : World} {AI AB : Option Addr} {cI cB n k : Nat} {M : BL} {x : Int} (h : PutS w (.slice AI n cI) (.slice AB n cB) M wr) (hn : M.length = n) (hk : k < n) :
    ∃ gI oI gB oB, AI = some ⟨gI, oI, none⟩ ∧ AB = some ⟨gB, oB, none⟩ ∧ wr.cell? ⟨gI, oI + k, none⟩ = some (.bool (isB M k)) ∧ wr.frozen? ⟨gI, oI + k, none⟩ = false ∧ w.heap.size ≤ gI ∧
      (∃ y, (wr.setCell ⟨gI, oI + k, none⟩ (.bool true)).cell? ⟨gB, oB + k, none⟩ = some (.int .u8 y)) ∧ (wr.setCell ⟨gI, oI + k, none⟩ (.bool true)).frozen? ⟨gB, oB + k, none⟩ = false ∧
      PutS w (.slice AI n cI) (.slice AB n cB) (M.set k (some x)) ((wr.setCell ⟨gI, oI + k, none⟩ (.bool true)).setCell ⟨gB, oB + k, none⟩ (.int .u8 x)) := by
  obtain ⟨h1, h2, h3, h4, h5⟩ := h
  rw [hn] at h1 h2
  obtain ⟨gI, oI, rfl, i1, i2, i3⟩ := slv_at h1 hk
  have hbI : But (fun b => b = gI) wr (wr.setCell ⟨gI, oI + k, none⟩ (.bool true)) := (But.refl (fun b => b = gI) wr).setCell (p := ⟨gI, oI + k, none⟩) rfl _
  have hne := fun b hb => slv_apart (b := b) h1 h2 (by decide) hb
  have h2' := h2.but hbI (fun b hb e => hne b (by subst e; rfl) hb)
  obtain ⟨gB, oB, rfl, j1, j2, j3⟩ := slv_at h2' hk
  have hgg : ¬ gI = gB := fun e => hne gI rfl (by rw [e]; rfl)
  have hbB : But (fun b => b = gB) (wr.setCell ⟨gI, oI + k, none⟩ (.bool true)) ((wr.setCell ⟨gI, oI + k, none⟩ (.bool true)).setCell ⟨gB, oB + k, none⟩ (.int .u8 x)) := (But.refl (fun b => b = gB) _).setCell (p := ⟨gB, oB + k, none⟩) rfl _
  refine ⟨gI, oI, gB, oB, rfl, rfl, ?_, i2, h3 _ rfl, ?_, j2, ⟨?_, ?_, h3, h4, ?_⟩⟩
  · rw [i1]
    unfold isV isB
    rw [List.getElem?_map, List.getD, List.getElem?_eq_getElem (by omega)]
    rfl
  · rw [j1]
    unfold byV
    rw [List.getElem?_map, List.getElem?_eq_getElem (by omega)]
    exact ⟨_, rfl⟩
  · rw [List.length_set, hn]
    have := (i3 (.bool true)).but hbB (fun b hb e => hgg (by injection hb with hb; exact hb.trans e))
    have e := isV_set M k x
    unfold isV at this ⊢
    rw [← e]
    exact this
  · rw [List.length_set, hn]
    have := j3 (.int .u8 x)
    have e := byV_set M k x
    unfold byV at this ⊢
    rw [← e]
    exact this
  · exact (h5.setCell (by exact h3 _ rfl) _).setCell (by exact h4 _ rfl) _
theorem wdiff (a at_ : Int) : wrap32 ((a - at_) % 4294967296) = diffB a at_ := by
  unfold wrap32 diffB num32
  split <;> omega
theorem set1R {w : World} {q : Nat} {u0 u1 u2 : Value} {t : TypeId} (h : w.heap[q]? = some (.cells #[u0, u1, u2] t (0, 0))) (v : Value) : (w.setCell ⟨q, 1, none⟩ v).heap[q]? = some (.cells #[u0, v, u2] t (0, 0)) := by simp [World.setCell, Array.getElem?_modify, h]
theorem set2R {w : World} {q : Nat} {u0 u1 u2 : Value} {t : TypeId} (h : w.heap[q]? = some (.cells #[u0, u1, u2] t (0, 0))) (v : Value) : (w.setCell ⟨q, 2, none⟩ v).heap[q]? = some (.cells #[u0, u1, v] t (0, 0)) := by simp [World.setCell, Array.getElem?_modify, h]
theorem diff_bd (a at_ : Int) : -2147483648 ≤ diffB a at_ ∧ diffB a at_ < 2147483648 := by
  unfold diffB num32
  split <;> omega
set_option maxHeartbeats 4000000 in
theorem rput18_any (S : Nat → Prop) (g : Nat) (at_ a : Int) (L : BL) (A : Option Addr) (nl cl : Nat) (l : List Int) (w : World) (h : RefR w S g at_ L) (hn : L.length ≤ 16384) (hat : 0 ≤ at_ ∧ at_ < 4294967296) (ha : 0 ≤ a ∧ a < 4294967296) (hl : Rd w A nl l) (hnl : nl ≤ 100000) :
    Calls Try.prog 12 #[.pointer (some ⟨g, 0, none⟩), .int .u32 a, .slice A nl cl] w (BDoes RefR S g at_ (putQ (diffB a at_) l L) (.tuple #[.int .i64 (putN (diffB a at_) l L : Nat), .int .i64 (putE (diffB a at_) l L)]) w) := by
  have HR := Lib.hid h
  obtain ⟨vI, vB, h1, h2, h3, h4, h5, h6, h7⟩ := h
  obtain ⟨n, en⟩ : ∃ n, L.length = n := ⟨_, rfl⟩
  rw [en] at h2 h3 hn
  obtain ⟨AI0, cI0, rfl⟩ := h2.form
  obtain ⟨AB0, cB0, rfl⟩ := h3.form
  have hll := hl.len
  obtain ⟨AI, cI, w1, hrun1, s1, b1, o1, -⟩ := sv_app (P := Try.prog) w 35 35 4 (.bool false) 1 1 Try.underlying35 info_boolR (by decide) rfl (.slice none 0 0) (.slice AI0 n cI0) 0 n [] (isV L) (.inl ⟨rfl, rfl, rfl⟩) h2 (fun u hu => by unfold isV at hu; obtain ⟨o, _, rfl⟩ := List.mem_map.1 hu; rfl) (by omega)
  have hb1 : Below w.heap.size w w1 := b1.below (fun b hb => by cases hb) (Nat.le_refl _)
  have h31 := h3.but b1 (fun b _ hb => by cases hb)
  obtain ⟨AB, cB, w2, hrun2, s2, b2, o2, -⟩ := sv_app (P := Try.prog) w1 32 32 5 (.int .u8 0) 1 1 Try.underlying32 info5 (by decide) rfl (.slice none 0 0) (.slice AB0 n cB0) 0 n [] (byV L) (.inl ⟨rfl, rfl, rfl⟩) h31 (fun u hu => by unfold byV at hu; obtain ⟨o, _, rfl⟩ := List.mem_map.1 hu; rfl) (by omega)
  rw [Nat.zero_add, List.nil_append] at s1 s2
  rw [Nat.zero_add] at hrun1 hrun2 o1 o2
  have hb2 : Below w.heap.size w w2 := hb1.trans (b2.below (fun b hb => by cases hb) hb1.size)
  obtain ⟨d, ed⟩ : ∃ d, diffB a at_ = d := ⟨_, rfl⟩
  have hd1 := diff_bd a at_
  have hz1 := wdiff a at_
  rw [ed] at hd1 hz1 ⊢
  have hz2 : wrap64 d = d := IntWalk.wrap64_in _ (by omega)
  have HG := Lib.hid (fun W (hW : Below w.heap.size w W) => blk_on h1 hW)
  have HP0 : PutS w (.slice AI n cI) (.slice AB n cB) L w2 := ⟨by rw [en]; exact s1.but b2 (fun b _ hb => by cases hb), by rw [en]; exact s2, fun b hb => by
      rcases o1 with e | e
      · rw [e] at hb; cases hb
      · rw [e] at hb; injection hb with hb; omega, fun b hb => by
      have := hb1.size
      rcases o2 with e | e
      · rw [e] at hb; cases hb
      · rw [e] at hb; injection hb with hb; omega, hb2⟩
  have HP := Lib.hid HP0
  have HL := Lib.hid hl
  have Hll := Lib.hid hll
  have Hen := Lib.hid en
  have Hrun1 := Lib.hid hrun1
  have Hrun2 := Lib.hid hrun2
  have H1 := Lib.hid (show RefR w S g at_ L from HR.out)
  have c0 : w.cell? ⟨g, 1, none⟩ = some (.slice AI0 n cI0) := by rw [blk_cell h1]; rfl
  have c1 : w1.cell? ⟨g, 2, none⟩ = some (.slice AB0 n cB0) := by rw [blk_cell (HG.out _ hb1)]; rfl
  have c2 : w2.cell? ⟨g, 0, none⟩ = some (.int .u32 at_) := by rw [blk_cell (HG.out _ hb2)]; rfl
  have Hh := Lib.hid (And.intro h1 (And.intro h2 (And.intro h3 (And.intro h4 (And.intro h5 (And.intro h6 h7))))))
  clear h1 h2 h3 h4 h5 h6 h7 s1 s2 b1 b2 o1 o2 hrun1 hrun2 hb1 hb2 h31 HP0 hl hll en H1 ed hat ha
  go_enter Try.func12, Try.ntmps12
  go_wp2_with (at_builtin; first | refine wpList_appX rfl (.tmp 15) (.tmp 19) _ _ rfl rfl _ _ _ w1 rfl rfl Hrun1.out ?_ | refine wpList_appX rfl (.tmp 21) (.tmp 25) _ _ rfl rfl _ _ _ w2 rfl rfl Hrun2.out ?_)
  go_loopg [10, 12] nl (fun gk x10 x12 wr => ∃ (i cn : Nat), Hid (gk + i = nl) ∧ Hid (cn ≤ i) ∧ x10 = .int .i64 (cn : Int) ∧ x12 = .int .i64 (i : Int) ∧ Hid (haveB (putB d (l.take i) L) = haveB L + cn) ∧ Hid (PutS w (.slice AI n cI) (.slice AB n cB) (putB d (l.take i) L) wr))
  case atStart => exact ⟨0, 0, Lib.hid rfl, Lib.hid (Nat.le_refl _), rfl, rfl, Lib.hid (by rw [put_zero]; rfl), Lib.hid (by rw [put_zero]; exact HP.out)⟩
  case round =>
    obtain ⟨i, cn, hgk, hcn, rfl, rfl, HN, HH⟩ := hrel
    obtain rfl : gk = nl - i := by have := hgk.out; omega
    have hin : i ≤ nl := by have := hgk.out; omega
    have hcn2 : cn ≤ i := hcn.out
    clear hgk
    clear hz1
    have i0 : (0 : Int) ≤ (i : Int) := by omega
    obtain ⟨M, eM⟩ : ∃ M, putB d (l.take i) L = M := ⟨_, rfl⟩
    have hMl : M.length = n := by rw [← eM, put_len]; exact Hen.out
    by_cases hi3 : i < nl
    · have i1 : (i : Int) < (nl : Int) := by omega
      have hz3 : wrap64 (d + (i : Int)) = d + (i : Int) := IntWalk.wrap64_in _ (by omega)
      have hil : i < l.length := by have := Hll.out; omega
      obtain ⟨p, hx, hc0, hp⟩ := HL.out.index (c := cl) hi3
      by_cases hneg : d + (i : Int) < 0
      · have hskip : putB d (l.take (i + 1)) L = putB d (l.take i) L := put_skip (fun k hk _ => by omega)
        have k1 : ¬ 0 ≤ d + (i : Int) := by omega
        have HH2 := Lib.hid (show PutS w (.slice _ n cI) (.slice _ n cB) (putB d (l.take (i + 1)) L) wr by rw [hskip]; exact HH.out)
        have HN2 := Lib.hid (show haveB (putB d (l.take (i + 1)) L) = haveB L + cn by rw [hskip]; exact HN.out)
        clear hskip
        go_wp2_with fail
        go_roundg (nl - (i + 1))
        case measure => omega
        case rel => exact ⟨i + 1, cn, Lib.hid (by omega), Lib.hid (by omega), rfl, by go_num, HN2, HH2⟩
      · by_cases hfar : (n : Int) ≤ d + (i : Int)
        · have hskip : putB d (l.take (i + 1)) L = putB d (l.take i) L := put_skip (fun k hk hk2 => by have := Hen.out; omega)
          have k1 : 0 ≤ d + (i : Int) := by omega
          have k2 : ¬ d + (i : Int) < (n : Int) := by omega
          clear hneg
          have HH2 := Lib.hid (show PutS w (.slice _ n cI) (.slice _ n cB) (putB d (l.take (i + 1)) L) wr by rw [hskip]; exact HH.out)
          have HN2 := Lib.hid (show haveB (putB d (l.take (i + 1)) L) = haveB L + cn by rw [hskip]; exact HN.out)
          clear hskip
          go_wp2_with fail
          go_roundg (nl - (i + 1))
          case measure => omega
          case rel => exact ⟨i + 1, cn, Lib.hid (by omega), Lib.hid (by omega), rfl, by go_num, HN2, HH2⟩
        · have k1 : 0 ≤ d + (i : Int) := by omega
          have k2 : d + (i : Int) < (n : Int) := by omega
          obtain ⟨k, ek⟩ : ∃ k : Nat, d + (i : Int) = k := ⟨(d + (i : Int)).toNat, by omega⟩
          have hkn : k < n := by omega
          obtain ⟨x, ex⟩ : ∃ x, l.getD i 0 = x := ⟨_, rfl⟩
          have exl : l[i] = x := by rw [← ex, List.getD, List.getElem?_eq_getElem hil]; rfl
          rw [ex] at hc0
          obtain ⟨gI, oI, gB, oB, rfl, rfl, m1, m2, m3, ⟨y, m4⟩, m5, m6⟩ := (show PutS w (.slice AI n cI) (.slice AB n cB) M wr from by rw [← eM]; exact HH.out).more (x := x) hMl hkn
          have hxI := run_bo gI oI n cI k hkn
          have hxB := run_by gB oB n cB k hkn
          rw [← ek] at hxI hxB
          clear hneg hfar
          cases hb : isB M k with
          | true =>
            rw [hb] at m1
            have hskip : putB d (l.take (i + 1)) L = putB d (l.take i) L := put_skip (fun k' hk' _ => by
              obtain rfl : k' = k := by omega
              rw [eM]; exact hb)
            clear m2 m3 m4 m5 m6 ek
            have HH2 := Lib.hid (show PutS w (.slice _ n cI) (.slice _ n cB) (putB d (l.take (i + 1)) L) wr by rw [hskip]; exact HH.out)
            have HN2 := Lib.hid (show haveB (putB d (l.take (i + 1)) L) = haveB L + cn by rw [hskip]; exact HN.out)
            clear hskip
            go_wp2_with fail
            go_roundg (nl - (i + 1))
            case measure => omega
            case rel => exact ⟨i + 1, cn, Lib.hid (by omega), Lib.hid (by omega), rfl, by go_num, HN2, HH2⟩
          | false =>
            rw [hb] at m1
            have hmore : putB d (l.take (i + 1)) L = M.set k (some x) := by
              rw [put_more ek (by rw [Hen.out]; exact hkn) hil (by rw [eM]; exact hb), exl, eM]
            have HN2 := Lib.hid (show haveB (putB d (l.take (i + 1)) L) = haveB L + (cn + 1) by
              rw [hmore, have_more (by rw [hMl]; exact hkn) hb, ← eM, HN.out]
              omega)
            obtain ⟨w4, e4⟩ : ∃ w4, wr.setCell ⟨gI, oI + k, none⟩ (.bool true) = w4 := ⟨_, rfl⟩
            have hb4 : Below w.heap.size w w4 := by rw [← e4]; exact HH.out.old.setCell (by exact m3) _
            rw [e4] at m4 m5 m6
            have hc4 := (hb4.cell (p := p) hp).trans hc0
            have HH2 := Lib.hid (show PutS w (.slice (some ⟨gI, oI, none⟩) n cI) (.slice (some ⟨gB, oB, none⟩) n cB) (putB d (l.take (i + 1)) L) (w4.setCell ⟨gB, oB + k, none⟩ (.int .u8 x)) by rw [hmore]; exact m6)
            have E4 := Lib.hid e4
            clear m6 hmore hb4 e4 ek m3 exl ex hc0
            go_upto_region 13 with fail
            rw [E4.out]
            go_wp2_with fail
            go_roundg (nl - (i + 1))
            case measure => omega
            case rel => exact ⟨i + 1, cn + 1, Lib.hid (by omega), Lib.hid (by omega), by go_num, by go_num, HN2, HH2⟩
    · obtain rfl : i = nl := by omega
      have i1 : ¬ (i : Int) < (i : Int) := by omega
      rw [List.take_of_length_le (by rw [Hll.out]; exact Nat.le_refl _)] at eM
      have hN : haveB M = haveB L + cn := by have := HN.out; rw [List.take_of_length_le (by rw [Hll.out]; exact Nat.le_refl _), eM] at this; exact this
      have hP : PutS w (.slice AI n cI) (.slice AB n cB) M wr := by have := HH.out; rw [List.take_of_length_le (by rw [Hll.out]; exact Nat.le_refl _), eM] at this; exact this
      obtain ⟨h1, h2, h3, h4, h5, h6, h7⟩ := Hh.out
      have hgl := lt_of_block h1
      have hwg := HG.out _ hP.old
      have hset := set1R hwg (.slice AI n cI)
      have hbS : But (fun b => b = g) wr (wr.setCell ⟨g, 1, none⟩ (.slice AI n cI)) := (But.refl (fun b => b = g) wr).setCell (p := ⟨g, 1, none⟩) rfl _
      have hslS := hP.isl.but hbS (fun b hb e => by have := hP.oI b hb; omega)
      have f1 := blk_free hwg 1
      have r1 : wr.cell? ⟨g, 1, none⟩ = some (.slice AI0 n cI0) := by rw [blk_cell hwg]; rfl
      obtain ⟨wS, eS⟩ : ∃ wS, wr.setCell ⟨g, 1, none⟩ (.slice AI n cI) = wS := ⟨_, rfl⟩
      rw [eS] at hset hbS hslS
      have HQ := Lib.hid (rheld18_is g at_ M (.slice AI n cI) (.slice AB0 n cB0) wS hset hslS (by rw [hMl]; exact hn))
      have HS := Lib.hid (And.intro hP (And.intro hset (And.intro hbS hN)))
      have ES := Lib.hid eS
      have EM := Lib.hid eM
      have HMl := Lib.hid hMl
      clear h1 h2 h3 h4 h5 h6 h7 hP hset hbS hslS hwg eS hN eM hMl
      go_upto_region 17 with fail
      rw [ES.out]
      go_wp2_with fail
      refine HQ.out.mono ?_
      rintro e wH ⟨v, rfl, Hv⟩
      obtain ⟨m, em⟩ : ∃ m, (heldI at_ M).length = m := ⟨_, rfl⟩
      obtain ⟨A9, c9, rfl⟩ := Hv.sl.form
      rw [em]
      have hml : (heldB M).length = m := by rw [← em]; unfold heldI; rw [List.length_map]
      obtain ⟨hP, hset, hbS, hN⟩ := HS.out
      obtain ⟨h1, h2, h3, h4, h5, h6, h7⟩ := Hh.out
      have hgH := blk_on hset Hv.old
      have f2 := blk_free hgH 1
      have f3 := blk_free hgH 2
      have r2 : wH.cell? ⟨g, 1, none⟩ = some (.slice AI n cI) := by rw [blk_cell hgH]; rfl
      have r3 : wH.cell? ⟨g, 2, none⟩ = some (.slice AB0 n cB0) := by rw [blk_cell hgH]; rfl
      have hbH : But (fun b => b = g) wr wH := hbS.trans (But.of Hv.old)
      by_cases hf : 16 < m
      · have q1 : (16 : Int) < (m : Int) := by omega
        have hfull : fullB d l L = true := by unfold fullB; rw [EM.out, hml]; exact decide_eq_true hf
        have hE : BDoes RefR S g at_ (putQ d l L) (.tuple #[.int .i64 (putN d l L : Nat), .int .i64 (putE d l L)]) w (.returned (.tuple #[.int .i64 0, .int .i64 7])) (wH.setCell ⟨g, 1, none⟩ (.slice AI0 n cI0)) := by
          have hbE : But (fun b => b = g) w (wH.setCell ⟨g, 1, none⟩ (.slice AI0 n cI0)) := ((But.of hP.old).trans hbH).setCell (p := ⟨g, 1, none⟩) rfl _
          unfold putQ putN putE
          rw [if_pos hfull, if_pos hfull, if_pos hfull]
          refine ⟨rfl, S, ⟨_, _, set1R hgH _, ?_, ?_, h4, h5, h6, fun k hk => Nat.lt_of_lt_of_le (h7 k hk) hbE.size⟩, hbE.mono (fun k _ hk => by rw [show k = g from hk]; exact h4), fun k hk => .inl hk⟩
          · rw [Hen.out]; exact h2.but hbE (slv_ne h2 h1 (by decide))
          · rw [Hen.out]; exact h3.but hbE (slv_ne h3 h1 (by decide))
        have HE := Lib.hid hE
        clear h1 h2 h3 h4 h5 h6 h7 hP hset hbS hN hgH hbH hfull hE Hv hml em
        go_wp2_with fail
        go_ret2
        exact HE.out
      · have q1 : ¬ (16 : Int) < (m : Int) := by omega
        have hfull : ¬ fullB d l L = true := by unfold fullB; rw [EM.out, hml]; simpa using hf
        have hE : BDoes RefR S g at_ (putQ d l L) (.tuple #[.int .i64 (putN d l L : Nat), .int .i64 (putE d l L)]) w (.returned (.tuple #[.int .i64 (cn : Int), .int .i64 0])) (wH.setCell ⟨g, 2, none⟩ (.slice AB n cB)) := by
          have hbE1 : But (fun b => b = g) wr (wH.setCell ⟨g, 2, none⟩ (.slice AB n cB)) := hbH.setCell (p := ⟨g, 2, none⟩) rfl _
          have hbE : But (fun b => b = g) w (wH.setCell ⟨g, 2, none⟩ (.slice AB n cB)) := (But.of hP.old).trans hbE1
          have g1 := hP.isl.but hbE1 (fun b hb e => by have := hP.oI b hb; omega)
          have g2 := hP.byl.but hbE1 (fun b hb e => by have := hP.oB b hb; omega)
          unfold putQ putN putE freshB
          rw [if_neg hfull, if_neg hfull, if_neg hfull, EM.out, show haveB M - haveB L = cn by omega]
          refine ⟨rfl, fun k => S k ∨ (Value.slice AI n cI).ownBlock = some k ∨ (Value.slice AB n cB).ownBlock = some k, ⟨_, _, set2R hgH _, g1, g2, .inl h4, fun b hb => .inr (.inl hb), fun b hb => .inr (.inr hb), fun k hk => ?_⟩, hbE.mono (fun k _ hk => by rw [show k = g from hk]; exact h4), fun k hk => ?_⟩
          · rcases hk with hk | hk | hk
            · exact Nat.lt_of_lt_of_le (h7 k hk) hbE.size
            · exact g1.lt hk
            · exact g2.lt hk
          · rcases hk with hk | hk | hk
            · exact .inl hk
            · exact .inr (hP.oI k hk)
            · exact .inr (hP.oB k hk)
        have HE := Lib.hid hE
        clear h1 h2 h3 h4 h5 h6 h7 hP hset hbS hN hgH hbH hfull hE Hv hml em
        go_wp2_with fail
        go_ret2
        exact HE.out
end Go.Proofs.Ytmmnicnebammhaa
