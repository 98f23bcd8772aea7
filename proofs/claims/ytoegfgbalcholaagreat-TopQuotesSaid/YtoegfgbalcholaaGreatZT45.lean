/-
  Texts laid together: TupOpen, PkSized.
-/
import Derived.Test.YtoegfgbalcholaaGreatZT03
import Derived.Test.YtoegfgbalcholaaGreatZT44

/-
  A tuple (api.Tuple) that comes in, opened.
-/
namespace Go.Proofs.YtoegfgbalcholaaGreat
set_option maxRecDepth 10000
open Go.Joins Go.ChangeShapes Go.WideShapes Go.ChangeAt Go.RowKit Go.Deep

def TuAt (_w : World) (v : Value) : Prop := ∃ t : Tu, v = .agg #[.int .u8 t.pr, .int .u32 t.sr, .int .u32 t.ds, .int .u16 t.sp, .int .u16 t.dp] ∧ TuNum t
section
variable {H : Type} {enc : TypeId × Value → H} {W : World} {base : Nat} {v : Value} {d : DataW H} {p : List MemPlace}
theorem tu_open (hv : Value.okWide Tryz.prog W .any base 37 v) (h : DataW.Trod enc Tryz.prog W 0 (fun _ => true) true 37 v d p) : TuAt W v := by
  obtain ⟨cs, rfl, hsz⟩ := okWide_struct Tryz.underlying37 hv
  obtain ⟨l⟩ := cs
  have hC : Tryz.prog.cellsOf 37 = 5 := by kernel_rfl
  match l, hsz.trans hC with
  | [c0, c1, c2, c3, c4], _ =>
    obtain ⟨fuel, hf⟩ := h
    try simp only [Value.cells] at hf
    obtain ⟨m, hh⟩ := one_parts Tryz.underlying37 (by kernel_rfl) hf
    obtain ⟨_, h0⟩ : ∃ y, DataW.trod enc Tryz.prog W 0 (fun _ => true) true m 5 [c0] = some y := hh 0 _ _ rfl rfl
    obtain ⟨x0, e0, -, w0⟩ := DataW.trod_int Tryz.underlying5 h0
    simp at e0
    subst e0
    have b0 := bounds_u8 w0
    obtain ⟨_, h1⟩ : ∃ y, DataW.trod enc Tryz.prog W 0 (fun _ => true) true m 23 [c1] = some y := hh 1 _ _ rfl rfl
    obtain ⟨x1, e1, -, w1⟩ := DataW.trod_int Tryz.underlying23 h1
    simp at e1
    subst e1
    have b1 := bounds_u32 w1
    obtain ⟨_, h2⟩ : ∃ y, DataW.trod enc Tryz.prog W 0 (fun _ => true) true m 23 [c2] = some y := hh 2 _ _ rfl rfl
    obtain ⟨x2, e2, -, w2⟩ := DataW.trod_int Tryz.underlying23 h2
    simp at e2
    subst e2
    have b2 := bounds_u32 w2
    obtain ⟨_, h3⟩ : ∃ y, DataW.trod enc Tryz.prog W 0 (fun _ => true) true m 22 [c3] = some y := hh 3 _ _ rfl rfl
    obtain ⟨x3, e3, -, w3⟩ := DataW.trod_int Tryz.underlying22 h3
    simp at e3
    subst e3
    have b3 := bounds_u16 w3
    obtain ⟨_, h4⟩ : ∃ y, DataW.trod enc Tryz.prog W 0 (fun _ => true) true m 22 [c4] = some y := hh 4 _ _ rfl rfl
    obtain ⟨x4, e4, -, w4⟩ := DataW.trod_int Tryz.underlying22 h4
    simp at e4
    subst e4
    have b4 := bounds_u16 w4
    exact ⟨⟨x0, x1, x2, x3, x4⟩, rfl, ⟨by simp only; omega, by simp only; omega, by simp only; omega, by simp only; omega, by simp only; omega⟩⟩
end
end Go.Proofs.YtoegfgbalcholaaGreat

/-
  A packet (api.Packet) that comes in, opened, in the statement's first form: how long its parts may be.
-/
namespace Go.Proofs.YtoegfgbalcholaaGreat
set_option maxRecDepth 10000
open Go.Joins Go.ChangeShapes Go.WideShapes Go.ChangeAt Go.RowKit Go.Deep

/-- A packet that came in, its options and its data within the form's reach. -/
def PkTo (w : World) (v : Value) : Prop := ∃ (p : Pk) (a : PkA), v = .agg #[.int .u8 p.h.to, .int .u16 p.h.id, .bool p.h.df, .int .u8 p.h.tt, .int .u8 p.h.pr, .int .u32 p.h.sr, .int .u32 p.h.ds, .slice a.AH a.nH a.cH, .int .u16 p.s.sp, .int .u16 p.s.dp, .int .u32 p.s.sq, .int .u32 p.s.ak, .int .u8 p.s.fl, .int .u16 p.s.wn, .int .u16 p.s.ug, .slice a.AO a.nO a.cO, .slice a.AD a.nD a.cD, .int .u16 p.u.sp, .int .u16 p.u.dp, .slice a.AU a.nU a.cU, .int .u8 p.m.ty, .int .u8 p.m.cd, .int .u32 p.m.rs, .slice a.AM a.nM a.cM] ∧ PkRd w p a ∧ a.nO ≤ 140737488355328 ∧ a.nD ≤ 140737488355328 ∧ a.nM ≤ 140737488355328
section
variable {H : Type} {enc : TypeId × Value → H} {P : Program} {w : World} {base : Nat} {spare : Nat → Bool} {held : Bool}
theorem one_parts_d {t : TypeId} {fs : Array Field} {fuel : Nat} {cs : List Value} {y : DataW H × List MemPlace} (hs : P.underlying t = some (.struct fs)) (hone : oneCellFields P fs = true) (h : DataW.trod enc P w base spare held fuel t cs = some y) :
    ∃ n ds, y.1 = .agg ds ∧ ∀ (i : Nat) (f : Field) (c : Value), fs[i]? = some f → cs[i]? = some c → ∃ yi, DataW.trod enc P w base spare held n f.type [c] = some yi ∧ ds[i]? = some yi.1 := by
  obtain ⟨xs, n, _, hy, _, hlen, hg⟩ := DataW.trod_struct hs h
  refine ⟨n, xs.map (·.1), by rw [hy], fun i f c hf hc => ?_⟩
  obtain ⟨ho, hk⟩ := hone_of hone i f hf
  have hi : i < xs.length := by rw [hlen]; exact (Array.getElem?_eq_some_iff.1 hf).1
  have hx := hg i f hf
  have hc1 : (cs.drop i).take 1 = [c] := by
    have hlt : i < cs.length := by
      rcases Nat.lt_or_ge i cs.length with h1 | h1
      · exact h1
      · rw [List.getElem?_eq_none h1] at hc; cases hc
    rw [List.drop_eq_getElem_cons hlt]
    rw [List.getElem?_eq_getElem hlt] at hc
    injection hc with hc
    simp [hc]
  rw [ho, hk, hc1, List.getElem?_eq_getElem hi] at hx
  exact ⟨_, hx, by rw [List.getElem?_map, List.getElem?_eq_getElem hi]; rfl⟩
theorem multi_parts_d {t : TypeId} {fs : Array Field} {fuel : Nat} {cs : List Value} {y : DataW H × List MemPlace} (hs : P.underlying t = some (.struct fs)) (h : DataW.trod enc P w base spare held fuel t cs = some y) :
    ∃ n ds, y.1 = .agg ds ∧ ∀ (i : Nat) (f : Field), fs[i]? = some f → ∃ yi, DataW.trod enc P w base spare held n f.type ((cs.drop f.offset).take (P.cellsOf f.type)) = some yi ∧ ds[i]? = some yi.1 := by
  obtain ⟨xs, n, _, hy, _, hlen, hg⟩ := DataW.trod_struct hs h
  refine ⟨n, xs.map (·.1), by rw [hy], fun i f hf => ?_⟩
  have hi : i < xs.length := by rw [hlen]; exact (Array.getElem?_eq_some_iff.1 hf).1
  have hx := hg i f hf
  rw [List.getElem?_eq_getElem hi] at hx
  exact ⟨_, hx, by rw [List.getElem?_map, List.getElem?_eq_getElem hi]; rfl⟩
end
section
variable {H : Type} {enc : TypeId × Value → H} {W : World} {base : Nat} {v : Value} {d : DataW H} {p : List MemPlace}
theorem seg_part_d {n : Nat} {c0 c1 c2 c3 c4 c5 c6 c7 c8 : Value} {y : DataW H × List MemPlace} (h : DataW.trod enc Tryz.prog W 0 (fun _ => true) true n 29 [c0, c1, c2, c3, c4, c5, c6, c7, c8] = some y) :
    ∃ (s : Seg) (AO : Option Addr) (nO cO : Nat) (oss : List OptV) (AD : Option Addr) (nD cD : Nat), [c0, c1, c2, c3, c4, c5, c6, c7, c8] = [.int .u16 s.sp, .int .u16 s.dp, .int .u32 s.sq, .int .u32 s.ak, .int .u8 s.fl, .int .u16 s.wn, .int .u16 s.ug, .slice AO nO cO, .slice AD nD cD] ∧ SegRd W s AO nO cO oss AD nD cD ∧ ∃ ds, y.1 = .agg ds ∧ (∃ d7, ds[7]? = some d7 ∧ LenOf d7 nO) ∧ ∃ d8, ds[8]? = some d8 ∧ LenOf d8 nD := by
  obtain ⟨m, ds, eds, hh⟩ := one_parts_d Tryz.underlying29 (by kernel_rfl) h
  obtain ⟨_, h0, -⟩ : ∃ y, DataW.trod enc Tryz.prog W 0 (fun _ => true) true m 22 [c0] = some y ∧ ds[0]? = some y.1 := hh 0 _ _ rfl rfl
  obtain ⟨x0, e0, -, w0⟩ := DataW.trod_int Tryz.underlying22 h0
  simp at e0
  subst e0
  have b0 := bounds_u16 w0
  obtain ⟨_, h1, -⟩ : ∃ y, DataW.trod enc Tryz.prog W 0 (fun _ => true) true m 22 [c1] = some y ∧ ds[1]? = some y.1 := hh 1 _ _ rfl rfl
  obtain ⟨x1, e1, -, w1⟩ := DataW.trod_int Tryz.underlying22 h1
  simp at e1
  subst e1
  have b1 := bounds_u16 w1
  obtain ⟨_, h2, -⟩ : ∃ y, DataW.trod enc Tryz.prog W 0 (fun _ => true) true m 23 [c2] = some y ∧ ds[2]? = some y.1 := hh 2 _ _ rfl rfl
  obtain ⟨x2, e2, -, w2⟩ := DataW.trod_int Tryz.underlying23 h2
  simp at e2
  subst e2
  have b2 := bounds_u32 w2
  obtain ⟨_, h3, -⟩ : ∃ y, DataW.trod enc Tryz.prog W 0 (fun _ => true) true m 23 [c3] = some y ∧ ds[3]? = some y.1 := hh 3 _ _ rfl rfl
  obtain ⟨x3, e3, -, w3⟩ := DataW.trod_int Tryz.underlying23 h3
  simp at e3
  subst e3
  have b3 := bounds_u32 w3
  obtain ⟨_, h4, -⟩ : ∃ y, DataW.trod enc Tryz.prog W 0 (fun _ => true) true m 5 [c4] = some y ∧ ds[4]? = some y.1 := hh 4 _ _ rfl rfl
  obtain ⟨x4, e4, -, w4⟩ := DataW.trod_int Tryz.underlying5 h4
  simp at e4
  subst e4
  have b4 := bounds_u8 w4
  obtain ⟨_, h5, -⟩ : ∃ y, DataW.trod enc Tryz.prog W 0 (fun _ => true) true m 22 [c5] = some y ∧ ds[5]? = some y.1 := hh 5 _ _ rfl rfl
  obtain ⟨x5, e5, -, w5⟩ := DataW.trod_int Tryz.underlying22 h5
  simp at e5
  subst e5
  have b5 := bounds_u16 w5
  obtain ⟨_, h6, -⟩ : ∃ y, DataW.trod enc Tryz.prog W 0 (fun _ => true) true m 22 [c6] = some y ∧ ds[6]? = some y.1 := hh 6 _ _ rfl rfl
  obtain ⟨x6, e6, -, w6⟩ := DataW.trod_int Tryz.underlying22 h6
  simp at e6
  subst e6
  have b6 := bounds_u16 w6
  obtain ⟨_, h7, g7⟩ : ∃ y, DataW.trod enc Tryz.prog W 0 (fun _ => true) true m 27 [c7] = some y ∧ ds[7]? = some y.1 := hh 7 _ _ rfl rfl
  obtain ⟨AO, nO, cO, oss, ls, rfl, ho1, ho2, ho3, ho4, ho5⟩ := opts_read h7
  obtain ⟨_, hd, g8⟩ : ∃ y, DataW.trod enc Tryz.prog W 0 (fun _ => true) true m 24 [c8] = some y ∧ ds[8]? = some y.1 := hh 8 _ _ rfl rfl
  obtain ⟨A, k, c, l, rfl, hd1, hd2, hd3, hd4⟩ := bytes_read hd
  exact ⟨⟨x0, x1, x2, x3, x4, x5, x6, ls, l⟩, AO, nO, cO, oss, A, k, c, rfl, ⟨⟨by simp only; omega, by simp only; omega, by simp only; omega, by simp only; omega, by simp only; omega, by simp only; omega, by simp only; omega⟩, ⟨ho1, ho2⟩, ⟨hd1, hd2⟩, ho3, ho4, hd3⟩, ds, eds, ⟨_, g7, ho5⟩, _, g8, hd4⟩
theorem msg_part_d {n : Nat} {c0 c1 c2 c3 : Value} {y : DataW H × List MemPlace} (h : DataW.trod enc Tryz.prog W 0 (fun _ => true) true n 33 [c0, c1, c2, c3] = some y) :
    ∃ (s : Msg) (A : Option Addr) (k c : Nat), [c0, c1, c2, c3] = [.int .u8 s.ty, .int .u8 s.cd, .int .u32 s.rs, .slice A k c] ∧ MsgNum s ∧ (k ≤ c ∧ c ≤ maxLen) ∧ Rd W A k s.d ∧ ∃ ds, y.1 = .agg ds ∧ ∃ d3, ds[3]? = some d3 ∧ LenOf d3 k := by
  obtain ⟨m, ds, eds, hh⟩ := one_parts_d Tryz.underlying33 (by kernel_rfl) h
  obtain ⟨_, h0, -⟩ : ∃ y, DataW.trod enc Tryz.prog W 0 (fun _ => true) true m 5 [c0] = some y ∧ ds[0]? = some y.1 := hh 0 _ _ rfl rfl
  obtain ⟨x0, e0, -, w0⟩ := DataW.trod_int Tryz.underlying5 h0
  simp at e0
  subst e0
  have b0 := bounds_u8 w0
  obtain ⟨_, h1, -⟩ : ∃ y, DataW.trod enc Tryz.prog W 0 (fun _ => true) true m 5 [c1] = some y ∧ ds[1]? = some y.1 := hh 1 _ _ rfl rfl
  obtain ⟨x1, e1, -, w1⟩ := DataW.trod_int Tryz.underlying5 h1
  simp at e1
  subst e1
  have b1 := bounds_u8 w1
  obtain ⟨_, h2, -⟩ : ∃ y, DataW.trod enc Tryz.prog W 0 (fun _ => true) true m 23 [c2] = some y ∧ ds[2]? = some y.1 := hh 2 _ _ rfl rfl
  obtain ⟨x2, e2, -, w2⟩ := DataW.trod_int Tryz.underlying23 h2
  simp at e2
  subst e2
  have b2 := bounds_u32 w2
  obtain ⟨_, hd, g3⟩ : ∃ y, DataW.trod enc Tryz.prog W 0 (fun _ => true) true m 24 [c3] = some y ∧ ds[3]? = some y.1 := hh 3 _ _ rfl rfl
  obtain ⟨A, k, c, l, rfl, hd1, hd2, hd3, hd4⟩ := bytes_read hd
  exact ⟨⟨x0, x1, x2, l⟩, A, k, c, rfl, ⟨by simp only; omega, by simp only; omega, by simp only; omega⟩, ⟨hd1, hd2⟩, hd3, ds, eds, _, g3, hd4⟩
theorem pk_sized (hv : Value.okWide Tryz.prog W .any base 35 v) (h : DataW.Trod enc Tryz.prog W 0 (fun _ => true) true 35 v d p) (hz : ∀ k ∈ d.weights Tryz.prog 35, k ≤ reachBytes) : PkTo W v := by
  obtain ⟨cs, rfl, hsz⟩ := okWide_struct Tryz.underlying35 hv
  obtain ⟨l⟩ := cs
  have hC : Tryz.prog.cellsOf 35 = 24 := by kernel_rfl
  have k8 : Tryz.prog.cellsOf 26 = 8 := by kernel_rfl
  have k9 : Tryz.prog.cellsOf 29 = 9 := by kernel_rfl
  have k3 : Tryz.prog.cellsOf 31 = 3 := by kernel_rfl
  have k4 : Tryz.prog.cellsOf 33 = 4 := by kernel_rfl
  match l, hsz.trans hC with
  | [c0, c1, c2, c3, c4, c5, c6, c7, c8, c9, c10, c11, c12, c13, c14, c15, c16, c17, c18, c19, c20, c21, c22, c23], _ =>
    obtain ⟨fuel, hf⟩ := h
    try simp only [Value.cells] at hf
    obtain ⟨m, ds, eds, hm⟩ := multi_parts_d Tryz.underlying35 hf
    obtain ⟨yH, hH, gH⟩ : ∃ y, DataW.trod enc Tryz.prog W 0 (fun _ => true) true m 26 ((List.drop 0 [c0, c1, c2, c3, c4, c5, c6, c7, c8, c9, c10, c11, c12, c13, c14, c15, c16, c17, c18, c19, c20, c21, c22, c23]).take (Tryz.prog.cellsOf 26)) = some y ∧ ds[0]? = some y.1 := hm 0 _ rfl
    obtain ⟨yS, hS, gS⟩ : ∃ y, DataW.trod enc Tryz.prog W 0 (fun _ => true) true m 29 ((List.drop 8 [c0, c1, c2, c3, c4, c5, c6, c7, c8, c9, c10, c11, c12, c13, c14, c15, c16, c17, c18, c19, c20, c21, c22, c23]).take (Tryz.prog.cellsOf 29)) = some y ∧ ds[1]? = some y.1 := hm 1 _ rfl
    obtain ⟨yU, hU, gU⟩ : ∃ y, DataW.trod enc Tryz.prog W 0 (fun _ => true) true m 31 ((List.drop 17 [c0, c1, c2, c3, c4, c5, c6, c7, c8, c9, c10, c11, c12, c13, c14, c15, c16, c17, c18, c19, c20, c21, c22, c23]).take (Tryz.prog.cellsOf 31)) = some y ∧ ds[2]? = some y.1 := hm 2 _ rfl
    obtain ⟨yM, hM, gM⟩ : ∃ y, DataW.trod enc Tryz.prog W 0 (fun _ => true) true m 33 ((List.drop 20 [c0, c1, c2, c3, c4, c5, c6, c7, c8, c9, c10, c11, c12, c13, c14, c15, c16, c17, c18, c19, c20, c21, c22, c23]).take (Tryz.prog.cellsOf 33)) = some y ∧ ds[3]? = some y.1 := hm 3 _ rfl
    clear hf hm hv hsz
    rw [k8] at hH
    rw [k9] at hS
    rw [k3] at hU
    rw [k4] at hM
    obtain ⟨h, AH, nH, cH, eH, hn, hc, hr⟩ := head_part hH
    obtain ⟨s, AO, nO, cO, os, AD, nD, cD, eS, sr, dss, es, ⟨d7, g7, l7⟩, d8, g8, l8⟩ := seg_part_d hS
    obtain ⟨u, AU, nU, cU, eU, un, uc, ur⟩ := dg_part hU
    obtain ⟨g, AM, nM, cM, eM, mn, mc, mr, dms, em, d3, g3, l3⟩ := msg_part_d hM
    simp only [List.cons.injEq, and_true] at eH eS eU eM
    obtain ⟨rfl, rfl, rfl, rfl, rfl, rfl, rfl, rfl⟩ := eH
    obtain ⟨rfl, rfl, rfl, rfl, rfl, rfl, rfl, rfl, rfl⟩ := eS
    obtain ⟨rfl, rfl, rfl⟩ := eU
    obtain ⟨rfl, rfl, rfl, rfl⟩ := eM
    simp only at eds
    subst eds
    simp only [DataW.weights, Tryz.underlying35] at hz
    have hzS : ∀ k ∈ yS.1.weights Tryz.prog 29, k ≤ reachBytes := fun k hk => hz k (DataW.weights_mem_each (j := 1) rfl gS k hk)
    have hzM : ∀ k ∈ yM.1.weights Tryz.prog 33, k ≤ reachBytes := fun k hk => hz k (DataW.weights_mem_each (j := 3) rfl gM k hk)
    rw [es] at hzS
    rw [em] at hzM
    simp only [DataW.weights, Tryz.underlying29] at hzS
    simp only [DataW.weights, Tryz.underlying33] at hzM
    exact ⟨⟨h, s, u, g⟩, ⟨AH, nH, cH, AO, nO, cO, os, AD, nD, cD, AU, nU, cU, AM, nM, cM⟩, rfl, ⟨hn, hc, hr, sr, un, uc, ur, mn, mc, mr⟩, len_sized (j := 7) hzS rfl g7 Tryz.underlying27 (by rw [bytes_opt]; omega) l7, len_sized (j := 8) hzS rfl g8 Tryz.underlying24 (by rw [bytes_u8]; omega) l8, len_sized (j := 3) hzM rfl g3 Tryz.underlying24 (by rw [bytes_u8]; omega) l3⟩
end
end Go.Proofs.YtoegfgbalcholaaGreat
