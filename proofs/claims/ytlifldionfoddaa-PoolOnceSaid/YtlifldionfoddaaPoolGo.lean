/-
  The contract of package pool's goOn.
-/
import Derived.Test.YtlifldionfoddaaPoolGoOn
import Derived.BigQuiet
namespace Go.Proofs.Ytlifldionfoddaa
set_option maxRecDepth 10000
open Go.RowKit
set_option linter.unusedSimpArgs false
set_option linter.unusedVariables false

def GoOnIs (S : Nat → Prop) (g gp cp gm : Nat) (R : Int → Value) (q' : PS) (w : World) (e : Ending) (w' : World) : Prop := e = .returned (.tuple #[]) ∧ (∃ vE', MemAt w' S g gp cp gm vE' R q') ∧ But S w w'
def midQ (q : PS) (m : Int) (st : List Int) (L : List (Int × List Nat)) : PS := { q with now := m, st := st, L := L }
theorem portsOf_get (lo : Int) (ps : List Nat) {j : Nat} (hj : j < ps.length) : (portsOf lo ps).getD j 0 = lo + ((ps.getD j 0 : Nat) : Int) := by
  simp [portsOf, List.getD, List.getElem?_eq_getElem hj]
theorem take_snocN (l : List Nat) (j : Nat) (hj : j < l.length) : l.take (j + 1) = l.take j ++ [l.getD j 0] := by
  rw [List.take_succ_eq_append_getElem hj]
  simp [List.getD, List.getElem?_eq_getElem hj]
theorem not_in_take {l : List Nat} (hn : l.Nodup) {j : Nat} (hj : j < l.length) : l.getD j 0 ∉ l.take j := by
  intro h
  have e : l.getD j 0 = l[j] := by simp [List.getD, List.getElem?_eq_getElem hj]
  rw [e] at h
  obtain ⟨i, hi, he⟩ := List.mem_take_iff_getElem.1 h
  have := (List.getElem_inj hn).1 he
  omega
set_option maxHeartbeats 1000000 in
theorem goon_any (S : Nat → Prop) (g gp cp gm : Nat) (vE : Value) (R : Int → Value) (q : PS) (t m : Int) (w : World) (h : MemAt w S g gp cp gm vE R q) (hq : q.ok) (ht : 0 ≤ t ∧ t ≤ bigT) (hm : (if q.now < t then t else q.now) = m) :
    Calls Try.prog 17 #[.pointer (some ⟨g, 0, none⟩), .int .u64 t] w (GoOnIs S g gp cp gm R (goQ q m) w) := by
  have hmb : q.now ≤ m ∧ m ≤ bigT := by have := hq.now; rw [← hm]; split <;> omega
  obtain ⟨k0, k1, k2, k3, k4, k5, k6, k7, k8, k9⟩ := cells10 h.box
  have fg := blk_free h.box 3
  have M0 := h.box_set 3 (.int .u64 m) { q with now := m } rfl rfl rfl rfl
  have Hq := Lib.hid (hq.at hmb)
  have B0 : But S w (w.setCell ⟨g, 3, none⟩ (.int .u64 m)) := (But.refl _ _).setCell h.sg _
  have HM0 := Lib.hid M0
  have HB0 := Lib.hid B0
  clear M0 B0 k0 k1 k2 k4 k5 k6 k7 k8 k9
  have hmx : ∀ W : World, (Builtin.max_ #[23, 23] 23 #[.int .u64 q.now, .int .u64 t]).run Try.prog W = .ok (.int .u64 m) W := by
    intro W
    rw [← hm, run_max_int2]
  clear hm
  go_enter Try.func17, Try.ntmps17
  go_wp2_with fail
  clear hmx k3 fg
  go_loopg [] q.L.length (fun gk wr => ∃ L st v, Hid (L.length = gk) ∧ Hid (MemAt wr S g gp cp gm v R (midQ q m st L)) ∧ Hid (midQ q m st L).ok ∧ Hid (goL m st L = goL m q.st q.L) ∧ Hid (But S w wr))
  case atStart => exact ⟨q.L, q.st, vE, Lib.hid rfl, HM0, Hq, Lib.hid rfl, HB0⟩
  case round =>
    obtain ⟨L, st, v, hgk, HM, Ho, Hg, HB⟩ := hrel
    cases L with
    | nil =>
      have Hfin := Lib.hid (show goQ q m = midQ q m st [] by
        have := Hg.out
        rw [goL_nil] at this
        unfold goQ midQ
        rw [← this])
      obtain ⟨A, c, e, _⟩ := HM.out.ends.form
      simp only [midQ, List.map_nil, List.length_nil] at e
      subst e
      have k9 := (cells10 HM.out.box).2.2.2.2.2.2.2.2.2
      clear h
      go_wp2_with fail
      go_quiet (fail)
      go_wp2_with fail
      go_end0
      exact ⟨rfl, ⟨_, by rw [Hfin.out]; exact HM.out.drewN nq⟩, HB.out.drewN nq⟩
    | cons a L =>
      obtain ⟨e0, ps⟩ := a
      obtain ⟨ge, oe, ce, ev, hre⟩ := (show Sl wr 23 .u64 v (e0 :: L.map Prod.fst) from HM.out.ends).cons
      rw [List.length_map] at ev
      obtain ⟨len, el⟩ : ∃ len, L.length + 1 = len := ⟨_, rfl⟩
      have hlen : (0 : Int) < (len : Int) := by omega
      have hlen2 : 0 < len := by omega
      have hlen3 : decide (0 < len) = true := decide_eq_true hlen2
      have hce : wr.cell? ⟨ge, oe, none⟩ = some (.int .u64 e0) := hre.cell (i := 0) (by simp)
      have hlc : L.length + 1 ≤ ce := by obtain ⟨_, _, _, hl, _⟩ := hre; simpa using hl
      obtain ⟨A2, c2, ev1, hv1, hvb⟩ := tail_run ge oe L.length ce hlc
      rw [el] at hv1
      rw [el] at ev
      have hvo : v.ownBlock = some ge := by rw [ev]; rfl
      have Hvb := Lib.hid (show (Value.slice A2 L.length c2).ownBlock = v.ownBlock by rw [hvo, ← ev1]; exact hvb)
      have Ev1 := Lib.hid ev1
      clear hvb hvo hre ev1 hlc
      obtain ⟨nl, enl⟩ : ∃ nl, L.length = nl := ⟨_, rfl⟩
      have Enl := Lib.hid enl
      rw [enl] at hv1 Hvb Ev1 el
      clear enl
      obtain ⟨k0, k1, k2, k3, k4, k5, k6, k7, k8, k9⟩ := cells10 HM.out.box
      rw [ev] at k9
      simp only [midQ] at k3
      have Ev := Lib.hid ev
      clear k0 k1 k2 k4 k5 k6 k7 ev h hq
      have El := Lib.hid el
      clear el
      by_cases hdue : e0 ≤ m
      · have Hdue := Lib.hid hdue
        go_wp2_with fail
        go_quiet (fail)
        have HM2 := Lib.hid (HM.out.drewN nq)
        have HB2 := Lib.hid (HB.out.drewN nq)
        have hcf := k9
        have hce2 := hce
        have hv2 := hv1
        have d9 : (wr.drewN nq).cell? ⟨g, 9, none⟩ = some (.slice (some ⟨ge, oe, none⟩) len ce) := k9
        have d8 : (wr.drewN nq).cell? ⟨g, 8, none⟩ = some (.map (some gm)) := k8
        have de : (wr.drewN nq).cell? ⟨ge, oe, none⟩ = some (.int .u64 e0) := hce
        clear HM HB hce k3 k8 k9 hv1 hcf hce2
        obtain ⟨w2, ew2⟩ : ∃ w2, wr.drewN nq = w2 := ⟨_, rfl⟩
        rw [ew2] at HM2 HB2 d9 d8 de ⊢
        clear ew2 wr
        have hmem : (e0, ps) ∈ (midQ q m st ((e0, ps) :: L)).L := .head _
        have hlk := HM2.out.map.look ⟨ps, hmem⟩
        obtain ⟨A1, c1, er, hr1⟩ := (HM2.out.rows e0 ps hmem).form
        simp only [portsOf, List.length_map] at er hr1
        obtain ⟨n1, en1⟩ : ∃ n1, ps.length = n1 := ⟨_, rfl⟩
        rw [en1] at er hr1
        rw [er] at hlk
        have Hr1 := Lib.hid hr1
        have Hen1 := Lib.hid en1
        have Er := Lib.hid er
        clear hmem er hr1 en1
        have hn1 : n1 ≤ 65536 := by
          have h1 := (Ho.out.sizes).2 e0 ps (.head _)
          have h2 := Ho.out.hi
          have h3 := Ho.out.lo
          rw [Hen1.out] at h1
          simp only [midQ] at h1 h2 h3
          omega
        have Hgk := Lib.hid hgk.out
        clear hgk
        go_wp2_with fail
        go_loopg [48] n1 (fun gi i wr => ∃ j : Nat, Hid (gi + j = n1) ∧ j ≤ n1 ∧ i = .int .i64 (j : Int) ∧ Hid (MemAt wr S g gp cp gm v R (midQ q m (zeros st (ps.take j)) ((e0, ps) :: L))) ∧ Hid (But S w2 wr))
        case atStart => exact ⟨0, rfl, Nat.zero_le _, rfl, HM2, Lib.hid (But.refl _ _)⟩
        case round =>
          obtain ⟨j, hgi, hj, rfl, HM3, HB3⟩ := hrel
          by_cases hjn : j < n1
          · obtain ⟨g1, o1, eA, hrow⟩ := Hr1.out (by omega)
            subst eA
            have hrow3 := HM3.out.rows e0 ps (.head _)
            rw [Er.out] at hrow3
            have hc3 : wr.cell? ⟨g1, o1 + j, none⟩ = some (.int .u16 (q.lo + ((ps.getD j 0 : Nat) : Int))) := by
              rcases hrow3 with ⟨h0, _⟩ | ⟨g', o', c', h0, h1⟩
              · cases h0
              · injection h0 with h0 _ _
                injection h0 with h0
                injection h0 with h0 h2
                subst h0; subst h2
                rw [h1.cell (by simp [portsOf, Hen1.out, midQ]; omega)]
                simp only [midQ]
                rw [portsOf_get _ _ (by rw [Hen1.out]; exact hjn)]
            clear hrow hrow3
            obtain ⟨x, ex⟩ : ∃ x, ps.getD j 0 = x := ⟨_, rfl⟩
            rw [ex] at hc3
            have hjp : j < ps.length := by rw [Hen1.out]; exact hjn
            have hxm : x ∈ ps := by rw [← ex]; simp only [List.getD, List.getElem?_eq_getElem hjp, Option.getD_some]; exact List.getElem_mem _
            have hx2 := Ho.out.mem e0 ps x (.head _) hxm
            simp only [midQ] at hx2
            have hnd : ps.Nodup := by
              have := Ho.out.nodup
              simp only [midQ, List.flatMap_cons, List.nodup_append] at this
              exact this.1
            have hxt : x ∉ ps.take j := by rw [← ex]; exact not_in_take hnd hjp
            have Ht := Lib.hid (turn_mem (a := 2) (b := 0) (.inr (.inr ⟨rfl, rfl⟩)) S g gp cp gm x v R (midQ q m (zeros st (ps.take j)) ((e0, ps) :: L)) (q.lo + (x : Int)) wr HM3.out
              (by have := Ho.out.lo; simp only [midQ] at this ⊢; omega) (by have := Ho.out.hi; simp only [midQ, zeros_length] at this ⊢; omega) (by simp only [midQ, zeros_length]; exact hx2.1) (by simp only [midQ]; rw [zeros_out hxt]; exact hx2.2) rfl)
            have hsn : (zeros st (ps.take j)).set x 0 = zeros st (ps.take (j + 1)) := by rw [take_snocN ps j hjp, ex, zeros_snoc]
            have Hsn := Lib.hid hsn
            have i0 : (0 : Int) ≤ (j : Int) := by omega
            have i1 : (j : Int) < (n1 : Int) := by omega
            clear hjp hxm hx2 hnd hxt hsn ex
            go_wp2_with fail
            refine Ht.out.mono ?_
            rintro e w4 ⟨rfl, M4, B4⟩
            have HM4 := Lib.hid (show MemAt w4 S g gp cp gm v R (midQ q m (zeros st (ps.take (j + 1))) ((e0, ps) :: L)) by rw [← Hsn.out]; exact M4)
            have HB4 := Lib.hid (HB3.out.trans B4)
            clear M4 B4
            go_wp2_with fail
            go_roundg (gk - 1)
            case measure => have := hgi.out; omega
            case rel => exact ⟨j + 1, by have := hgi.out; show gk - 1 + (j + 1) = _; omega, by omega, by go_num, HM4, HB4⟩
          · obtain rfl : n1 = j := by omega
            have M5 := HM3.out
            rw [List.take_of_length_le (by rw [Hen1.out]; exact Nat.le_refl _)] at M5
            obtain ⟨w5, hdel, hmp, hb5⟩ := M5.map.del (e := e0) ⟨ps, .head _⟩ 0
            have hd9 : w5.cell? ⟨g, 9, none⟩ = some (.slice (some ⟨ge, oe, none⟩) len ce) := by
              rw [hb5.cell (p := ⟨g, 9, none⟩) (lt_of_block M5.box) (M5.m_ne M5.box), ← Ev.out]
              exact (cells10 M5.box).2.2.2.2.2.2.2.2.2
            have hd8 := (cells10 M5.box).2.2.2.2.2.2.2.2.1
            have hf9 : w5.frozen? ⟨g, 9, none⟩ = false := by
              rw [hb5.frozen (p := ⟨g, 9, none⟩) (lt_of_block M5.box) (M5.m_ne M5.box)]
              exact blk_free M5.box 9
            have hsl : Sl wr 23 .u64 (.slice A2 nl c2) (L.map Prod.fst) := by
              obtain ⟨g', o', c', h0, h1⟩ := (show Sl wr 23 .u64 v (e0 :: L.map Prod.fst) from M5.ends).cons
              rw [Ev.out] at h0
              injection h0 with h0 _ h3
              injection h0 with h0
              injection h0 with h0 h2
              subst h0; subst h2; subst h3
              have := sl_tail h1
              rw [List.length_map, Enl.out, Ev1.out] at this
              exact this
            obtain ⟨M6, B6⟩ := M5.dropped (v' := .slice A2 nl c2) rfl (by have := Ho.out.sorted; simpa [midQ] using this) hmp hb5 Hvb.out hsl
            have HM6 := Lib.hid M6
            have HB6 := Lib.hid (HB3.out.trans B6)
            clear M5 M6 B6 hmp hb5 hsl
            go_wp2_with fail
            go_roundg L.length
            case measure => have := Hgk.out; simp only [List.length_cons] at this; omega
            case rel => exact ⟨L, zeros st ps, .slice A2 nl c2, Lib.hid rfl, HM6, Lib.hid (Ho.out.drop rfl), Lib.hid (by rw [← Hg.out, goL_due _ _ _ Hdue.out]), Lib.hid (HB2.out.trans HB6.out)⟩
      · have hd2 : decide (e0 ≤ m) = false := decide_eq_false hdue
        have Hfin := Lib.hid (show goQ q m = midQ q m st ((e0, ps) :: L) by
          have := Hg.out
          rw [goL_not _ _ _ hdue] at this
          unfold goQ midQ
          rw [← this])
        go_wp2_with fail
        go_quiet (fail)
        go_wp2_with fail
        go_end0
        exact ⟨rfl, ⟨_, by rw [Hfin.out]; exact HM.out.drewN nq⟩, HB.out.drewN nq⟩
end Go.Proofs.Ytlifldionfoddaa
