/-
  A segment (api.Segment) that comes in, opened: numbers within their bounds, a slice of options, a slice of bytes.
-/
import Derived.Test.YthhgdmdobfjipaaSeg
import Derived.Test.YthhgdmdobfjipaaLenOf
import Derived.Lib.SmallJoins
import Derived.SizedLaws
namespace Go.Proofs.Ythhgdmdobfjipaa
set_option maxRecDepth 10000
open Go.Joins Go.ChangeShapes Go.WideShapes Go.ChangeAt Go.RowKit Go.Deep

section
variable {H : Type} {enc : TypeId × Value → H} {P : Program} {w : World} {base : Nat} {spare : Nat → Bool} {held : Bool}
theorem open_agg9 {r : Reach} {b0 : Nat} {t : TypeId} {f0 f1 f2 f3 f4 f5 f6 f7 f8 : Field} {v : Value} {d : DataW H} {p : List MemPlace} (hs : P.underlying t = some (.struct #[f0, f1, f2, f3, f4, f5, f6, f7, f8])) (hone : oneCellFields P #[f0, f1, f2, f3, f4, f5, f6, f7, f8] = true) (hC : P.cellsOf t = 9)
    (hv : Value.okWide P w r b0 t v) (h : DataW.Trod enc P w base spare held t v d p) :
    ∃ (v0 v1 v2 v3 v4 v5 v6 v7 v8 : Value) (y0 y1 y2 y3 y4 y5 y6 y7 y8 : DataW H × List MemPlace) (n : Nat), v = .agg #[v0, v1, v2, v3, v4, v5, v6, v7, v8] ∧ d = .agg [y0.1, y1.1, y2.1, y3.1, y4.1, y5.1, y6.1, y7.1, y8.1] ∧
      DataW.trod enc P w base spare held n f0.type [v0] = some y0 ∧ DataW.trod enc P w base spare held n f1.type [v1] = some y1 ∧ DataW.trod enc P w base spare held n f2.type [v2] = some y2 ∧ DataW.trod enc P w base spare held n f3.type [v3] = some y3 ∧ DataW.trod enc P w base spare held n f4.type [v4] = some y4 ∧ DataW.trod enc P w base spare held n f5.type [v5] = some y5 ∧ DataW.trod enc P w base spare held n f6.type [v6] = some y6 ∧ DataW.trod enc P w base spare held n f7.type [v7] = some y7 ∧ DataW.trod enc P w base spare held n f8.type [v8] = some y8 := by
  obtain ⟨cs, rfl, hsz⟩ := okWide_struct hs hv
  obtain ⟨l⟩ := cs
  match l, hsz.trans hC with
  | [c0, c1, c2, c3, c4, c5, c6, c7, c8], _ =>
    obtain ⟨fuel, hf⟩ := h
    obtain ⟨xs, n, _, hx, _, hlen, hg⟩ := DataW.trod_struct hs hf
    obtain ⟨o0, k0⟩ := hone_of hone 0 f0 rfl
    obtain ⟨o1, k1⟩ := hone_of hone 1 f1 rfl
    obtain ⟨o2, k2⟩ := hone_of hone 2 f2 rfl
    obtain ⟨o3, k3⟩ := hone_of hone 3 f3 rfl
    obtain ⟨o4, k4⟩ := hone_of hone 4 f4 rfl
    obtain ⟨o5, k5⟩ := hone_of hone 5 f5 rfl
    obtain ⟨o6, k6⟩ := hone_of hone 6 f6 rfl
    obtain ⟨o7, k7⟩ := hone_of hone 7 f7 rfl
    obtain ⟨o8, k8⟩ := hone_of hone 8 f8 rfl
    match xs, hlen with
    | [y0, y1, y2, y3, y4, y5, y6, y7, y8], _ =>
      have hd := (Prod.mk.inj hx).1
      exact ⟨c0, c1, c2, c3, c4, c5, c6, c7, c8, y0, y1, y2, y3, y4, y5, y6, y7, y8, n, rfl, by simpa using hd, by simpa [Value.cells, o0, k0] using hg 0 f0 rfl, by simpa [Value.cells, o1, k1] using hg 1 f1 rfl, by simpa [Value.cells, o2, k2] using hg 2 f2 rfl, by simpa [Value.cells, o3, k3] using hg 3 f3 rfl, by simpa [Value.cells, o4, k4] using hg 4 f4 rfl, by simpa [Value.cells, o5, k5] using hg 5 f5 rfl, by simpa [Value.cells, o6, k6] using hg 6 f6 rfl, by simpa [Value.cells, o7, k7] using hg 7 f7 rfl, by simpa [Value.cells, o8, k8] using hg 8 f8 rfl⟩
end

theorem opts_read {H : Type} {enc : TypeId × Value → H} {W : World} {n0 : Nat} {v : Value} {y : DataW H × List MemPlace}
    (hm : DataW.trod enc Try.prog W 0 (fun _ => true) true n0 27 [v] = some y) : ∃ A n c os ls, v = .slice A n c ∧ n ≤ c ∧ c ≤ maxLen ∧ RdO W A n os ∧ Reads W os ls ∧ LenOf y.1 n := by
  have hC : Try.prog.cellsOf 90 = 2 := by kernel_rfl
  have hC1 : Try.prog.cellsOf 5 = 1 := by kernel_rfl
  have hC2 : Try.prog.cellsOf 24 = 1 := by kernel_rfl
  rcases open_slice Try.underlying27 hm with ⟨hcs, _⟩ | ⟨x, len, cap, m, fu2, D, Pl, hcs, _, hl, hm', hmm, hX, hi⟩
  · simp at hcs
    exact ⟨Option.none, 0, 0, [], [], hcs, Nat.le_refl _, by simp [maxLen], RdO.nil _ _, trivial, .inl rfl⟩
  · simp at hcs
    simp only [if_true] at hmm
    subst hmm
    rw [hC] at hi
    have hP : ∀ i, i < len → ∃ o l, (W.cell? (x.add (i * 2)) = some (.int .u8 o.kind) ∧ W.cell? ((x.add (i * 2)).add 1) = some (.slice o.A o.n o.c)) ∧ OptAt W o l := by
      intro i hin
      obtain ⟨cs', hc, ht⟩ := hi i (by omega)
      obtain ⟨y0, y1, fu3, _, hlen, h0, h1⟩ := trod_struct2 Try.underlying90 ht
      rw [hC] at hlen
      obtain ⟨_, hcl, hat⟩ := World.cells?_some hc
      match cs', hlen with
      | [u0, u1], _ =>
        simp [hC1, hC2] at h0 h1
        obtain ⟨kd, e0, -, w0⟩ := DataW.trod_int Try.underlying5 h0
        obtain ⟨A, n, c, l, e1, hnc, hcm, hr⟩ := rd_open h1
        simp at e0
        subst e0 e1
        have b0 := bounds_u8 w0
        have c0 := hat 0 (by omega)
        have c1 := hat 1 (by omega)
        simp at c0 c1
        exact ⟨⟨kd, A, n, c⟩, (kd, l), ⟨by simpa [Addr.add] using c0, c1⟩, rfl, (show 0 ≤ kd ∧ kd < 256 by omega), hnc, hcm, hr⟩
    obtain ⟨os, ls, hlen, hp, hreads⟩ := lists_of len hP
    refine ⟨some x, len, _, os, ls, hcs, hl, hm', ⟨hlen, fun hn => ?_⟩, hreads, .inr ⟨_, _, by rw [hX], by simp⟩⟩
    obtain ⟨b, off, spot⟩ := x
    have hspot : spot = Option.none := by simpa [Addr.add] using World.cell?_spot (hp 0 hn).1
    subst hspot
    refine ⟨b, off, rfl, World.block_lt_of_cell? (w := W) (a := ⟨b, off, Option.none⟩) (by simpa [Addr.add] using (hp 0 hn).1), fun i hin => ?_⟩
    have := hp i hin
    rw [add_plain, add_plain, Nat.add_assoc] at this
    exact this

/-- A segment that came in, of at most M options and N bytes of data. -/
def SegAt (M N : Nat) (w : World) (v : Value) : Prop :=
  ∃ (s : Seg) (AO : Option Addr) (nO cO : Nat) (oss : List OptV) (AD : Option Addr) (nD cD : Nat), v = .agg #[.int .u16 s.sp, .int .u16 s.dp, .int .u32 s.sq, .int .u32 s.ak, .int .u8 s.fl, .int .u16 s.wn, .int .u16 s.ug, .slice AO nO cO, .slice AD nD cD] ∧ SegRd w s AO nO cO oss AD nD cD ∧ nO ≤ M ∧ nD ≤ N

theorem seg_read {H : Type} {enc : TypeId × Value → H} {W : World} {base : Nat} {v : Value} {d : DataW H} {p : List MemPlace}
    (hv : Value.okWide Try.prog W .any base 29 v) (h : DataW.Trod enc Try.prog W 0 (fun _ => true) true 29 v d p) :
    ∃ (s : Seg) (AO : Option Addr) (nO cO : Nat) (oss : List OptV) (AD : Option Addr) (nD cD : Nat) (d0 d1 d2 d3 d4 d5 d6 d7 d8 : DataW H), v = .agg #[.int .u16 s.sp, .int .u16 s.dp, .int .u32 s.sq, .int .u32 s.ak, .int .u8 s.fl, .int .u16 s.wn, .int .u16 s.ug, .slice AO nO cO, .slice AD nD cD] ∧ SegRd W s AO nO cO oss AD nD cD ∧ d = .agg [d0, d1, d2, d3, d4, d5, d6, d7, d8] ∧ LenOf d7 nO ∧ LenOf d8 nD := by
  obtain ⟨v0, v1, v2, v3, v4, v5, v6, v7, v8, y0, y1, y2, y3, y4, y5, y6, y7, y8, n, rfl, hd, h0, h1, h2, h3, h4, h5, h6, h7, h8⟩ := open_agg9 Try.underlying29 (by kernel_rfl) (by kernel_rfl) hv h
  obtain ⟨sp, e0, -, w0⟩ := DataW.trod_int Try.underlying22 h0
  obtain ⟨dp, e1, -, w1⟩ := DataW.trod_int Try.underlying22 h1
  obtain ⟨sq, e2, -, w2⟩ := DataW.trod_int Try.underlying23 h2
  obtain ⟨ak, e3, -, w3⟩ := DataW.trod_int Try.underlying23 h3
  obtain ⟨fl, e4, -, w4⟩ := DataW.trod_int Try.underlying5 h4
  obtain ⟨wn, e5, -, w5⟩ := DataW.trod_int Try.underlying22 h5
  obtain ⟨ug, e6, -, w6⟩ := DataW.trod_int Try.underlying22 h6
  obtain ⟨AO, nO, cO, oss, ls, rfl, ho1, ho2, ho3, ho4, ho5⟩ := opts_read h7
  obtain ⟨AD, nD, cD, l, rfl, hd1, hd2, hd3, hd4⟩ := bytes_read h8
  simp at e0 e1 e2 e3 e4 e5 e6
  subst e0 e1 e2 e3 e4 e5 e6
  have b0 := bounds_u16 w0
  have b1 := bounds_u16 w1
  have b2 := bounds_u32 w2
  have b3 := bounds_u32 w3
  have b4 := bounds_u8 w4
  have b5 := bounds_u16 w5
  have b6 := bounds_u16 w6
  exact ⟨⟨sp, dp, sq, ak, fl, wn, ug, ls, l⟩, AO, nO, cO, oss, AD, nD, cD, _, _, _, _, _, _, _, _, _, rfl, ⟨⟨by simp only; omega, by simp only; omega, by simp only; omega, by simp only; omega, by simp only; omega, by simp only; omega, by simp only; omega⟩, ⟨ho1, ho2⟩, ⟨hd1, hd2⟩, ho3, ho4, hd3⟩, hd, ho5, hd4⟩

theorem bytes_opt : Try.prog.bytesOf 90 = 32 := by kernel_rfl
/-- In the statement's first form: the form's own reach. -/
theorem seg_open {H : Type} {enc : TypeId × Value → H} {W : World} {base : Nat} {v : Value} {d : DataW H} {p : List MemPlace}
    (hv : Value.okWide Try.prog W .any base 29 v) (h : DataW.Trod enc Try.prog W 0 (fun _ => true) true 29 v d p)
    (hz : ∀ k ∈ d.weights Try.prog 29, k ≤ reachBytes) : SegAt 140737488355328 140737488355328 W v := by
  obtain ⟨s, AO, nO, cO, oss, AD, nD, cD, d0, d1, d2, d3, d4, d5, d6, d7, d8, hv', hs, rfl, h7, h8⟩ := seg_read hv h
  simp only [DataW.weights, Try.underlying29] at hz
  exact ⟨s, AO, nO, cO, oss, AD, nD, cD, hv', hs, len_sized (j := 7) hz rfl rfl Try.underlying27 (by rw [bytes_opt]; omega) h7, len_sized (j := 8) hz rfl rfl Try.underlying24 (by rw [bytes_u8]; omega) h8⟩

theorem bulk_one {H : Type} (d : DataW H) : 1 ≤ Rows.uptoBulk d := by
  cases d with
  | lit l => cases l <;> simp [Rows.uptoBulk]
  | _ => simp [Rows.uptoBulk]
theorem bulk_len {H : Type} (l : List (DataW H)) : l.length ≤ Rows.uptoBulkAll l := by
  induction l with
  | nil => simp
  | cons x r ih => have := bulk_one x; simp only [Rows.uptoBulkAll, List.length_cons]; omega
theorem len_upto {H : Type} {d : DataW H} {n : Nat} (hn : LenOf d n) (h : Rows.uptoBulk d ≤ 1048576) : n ≤ 1048576 := by
  rcases hn with rfl | ⟨elems, spare, rfl, rfl⟩
  · omega
  · have := bulk_len elems
    simp only [Rows.uptoBulk] at h
    omega
/-- In the second form: of bulk at most 1048576. -/
theorem seg_upto {H : Type} {enc : TypeId × Value → H} {W : World} {base : Nat} {v : Value} {d : DataW H} {p : List MemPlace}
    (hv : Value.okWide Try.prog W .any base 29 v) (h : DataW.Trod enc Try.prog W 0 (fun _ => true) true 29 v d p) (hk : Rows.uptoBulk d ≤ 1048576) : SegAt 1048576 1048576 W v := by
  obtain ⟨s, AO, nO, cO, oss, AD, nD, cD, d0, d1, d2, d3, d4, d5, d6, d7, d8, hv', hs, rfl, h7, h8⟩ := seg_read hv h
  simp only [Rows.uptoBulk, Rows.uptoBulkAll] at hk
  exact ⟨s, AO, nO, cO, oss, AD, nD, cD, hv', hs, len_upto h7 (by omega), len_upto h8 (by omega)⟩
def BytesUp (N : Nat) (w : World) (v : Value) : Prop := ∃ A n c l, v = .slice A n c ∧ n ≤ c ∧ c ≤ maxLen ∧ Rd w A n l ∧ n ≤ N
theorem bytes_upto {H : Type} {enc : TypeId × Value → H} {W : World} {base : Nat} {v : Value} {d : DataW H} {p : List MemPlace}
    (hv : Value.okWide Try.prog W .any base 24 v) (h : DataW.Trod enc Try.prog W 0 (fun _ => true) true 24 v d p) (hk : Rows.uptoBulk d ≤ 1048576) : BytesUp 1048576 W v := by
  obtain ⟨a0, len0, cap0, rfl⟩ := okWide_slice Try.underlying24 hv
  obtain ⟨m, hm⟩ := h
  obtain ⟨A, n, c, l, e, h1, h2, h3, h4⟩ := bytes_read (y := (d, p)) (by simpa [Value.cells] using hm)
  exact ⟨A, n, c, l, e, h1, h2, h3, len_upto h4 hk⟩
theorem bytes_open9 {H : Type} {enc : TypeId × Value → H} {W : World} {base : Nat} {v : Value} {d : DataW H} {p : List MemPlace}
    (hv : Value.okWide Try.prog W .any base 24 v) (h : DataW.Trod enc Try.prog W 0 (fun _ => true) true 24 v d p) (hz : ∀ k ∈ d.weights Try.prog 24, k ≤ reachBytes) : BytesUp 140737488355328 W v := by
  obtain ⟨a0, len0, cap0, rfl⟩ := okWide_slice Try.underlying24 hv
  obtain ⟨m, hm⟩ := h
  obtain ⟨A, n, c, l, e, h1, h2, h3, h4⟩ := bytes_read (y := (d, p)) (by simpa [Value.cells] using hm)
  refine ⟨A, n, c, l, e, h1, h2, h3, len_sized (ts := [24]) (ds := [d]) (j := 0) (fun k hk => hz k (by simpa [DataW.weightsEach] using hk)) rfl rfl Try.underlying24 (by rw [bytes_u8]; omega) h4⟩
end Go.Proofs.Ythhgdmdobfjipaa
