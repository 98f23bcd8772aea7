/-
  The document's own buffer (culvertref19): Send.
-/
import Derived.Test.YtncbkgcblmohoaaTk
import Derived.Test.YtncbkgcblmohoaaRxRefSd
import Derived.Test.YtncbkgcblmohoaaRxPcs
namespace Go.Proofs.Ytncbkgcblmohoaa
set_option maxRecDepth 10000
open Go.RowKit
set_option linter.unusedSimpArgs false
set_option linter.unusedVariables false

theorem slv_neR {w : World} {T T' : TypeId} {sz n g : Nat} {v : Value} {vs : List Value} {C' : Array Value} {fr : Nat × Nat} (h : SlV w T sz v n vs) (hg : w.heap[g]? = some (.cells C' T' fr)) (hT : T ≠ T') : ¬ v.ownBlock = some g := by
  intro hb
  rcases h with ⟨rfl, _⟩ | ⟨g2, o, c, rfl, C, hC, _⟩
  · cases hb
  · have e : g2 = g := by simpa [Value.ownBlock] using hb
    subst e
    rw [hC] at hg
    injection hg with hg
    injection hg with _ e2
    exact hT e2
theorem info_rpiece : (Try.prog.info? 57).map (fun i => (i.zero, i.size, i.bytes)) = some (some (.agg #[.int .u32 0, .slice none 0 0]), 2, 32) := by kernel_rfl
/-- What goes on in Send: the buffer with k bytes sent, the pieces so far. -/
structure SrX (w : World) (T : Nat → Prop) (g : Nat) (A : Option Addr) (c : Nat) (first : Int) (W : List Int) (a : Nat) (s : XS) (k : Nat) (v : Value) (qs : List PQ) (wr : World) : Prop where
  ref : RefX wr T g A c first W a { s with sent := k }
  pcs : PcsX wr 57 w.heap.size v qs
  all : But T w wr
theorem SrX.more {w wq wr : World} {T : Nat → Prop} {g c a k y t cp m c2 : Nat} {A Ap A2 : Option Addr} {first u : Int} {W l : List Int} {s : XS} {qs : List PQ} (hlt : ∀ k, T k → k < w.heap.size) (hall : But T w wq) (hp : PcsX wq 57 w.heap.size (.slice A2 m c2) qs) (hm : qs.length = m) (hml : m ≤ 100000)
    (hd : SdX wq T g A c first W a s k y u Ap t cp l wr) :
    ∃ A3 c3 w3, (Builtin.append_ #[44, 44] 44 #[.slice A2 m c2, .slice (some ⟨wr.heap.size, 0, none⟩) 1 1]).run Try.prog (wr.alloc (.cells #[.int .u32 u, .slice Ap t cp] 57)) = .ok (.slice A3 (m + 1) c3) w3 ∧
      SrX w T g A c first W a s k (.slice A3 (m + 1) c3) (qs ++ [⟨u, Ap, cp, l⟩]) w3 := by
  obtain ⟨href, hbp, ho, hda⟩ := hd
  have hlen := ho.len
  subst hlen
  have hsz := hall.size
  have hsz2 := hda.size
  have hB12 : But (fun _ => False) wr (wr.alloc (.cells #[.int .u32 u, .slice Ap l.length cp] 57)) := (But.refl _ _).alloc _
  have hown : ∀ b, (Value.slice A2 m c2).ownBlock = some b → w.heap.size ≤ b := hp.own
  have hpr : PcsX wr 57 w.heap.size (.slice A2 m c2) qs := hp.but hda (fun j hj ht => by
    have h1 := hlt j ht
    rcases hj with hj | ⟨q, hq, hj⟩
    · have := hown j hj; omega
    · rcases (hp.rows q hq).2 with ⟨e, _⟩ | ⟨g2, cap, cur, e, hB, _⟩
      · rw [show rowQ q = .slice q.A q.data.length q.c from rfl, e] at hj; cases hj
      · rw [show rowQ q = .slice q.A q.data.length q.c from rfl, e] at hj
        injection hj with hj
        have hj : g2 = j := hj
        omega)
  have hsl2 := hpr.sl.but hB12 (fun _ _ e => e)
  rw [hm] at hsl2
  obtain ⟨A3, c3, w3, hrun, hs3, hb3, ho3, -⟩ := sv_app (P := Try.prog) (wr.alloc (.cells #[.int .u32 u, .slice Ap l.length cp] 57)) 44 44 57 (.agg #[.int .u32 0, .slice none 0 0]) 2 32 Try.underlying44 info_rpiece (by omega) rfl
    (.slice A2 m c2) (.slice (some ⟨wr.heap.size, 0, none⟩) 1 1) m 1 (flatQ qs) (flatQ [⟨u, Ap, cp, l⟩]) hsl2 (RowV.one 57 (flatQ [⟨u, Ap, cp, l⟩]) wr.heap.size rfl rfl) (by intro x hx; simp [flatQ] at hx; rcases hx with rfl | rfl <;> rfl) (by omega)
  have hs12 : (wr.alloc (.cells #[.int .u32 u, .slice Ap l.length cp] 57)).heap.size = wr.heap.size + 1 := by simp
  have rowOk : ∀ q ∈ qs ++ [⟨u, Ap, cp, l⟩], OwnB w3 w.heap.size q.A q.data.length q.c q.data := by
    intro q hq
    have h2 : OwnB (wr.alloc (.cells #[.int .u32 u, .slice Ap l.length cp] 57)) w.heap.size q.A q.data.length q.c q.data := by
      rcases List.mem_append.1 hq with h5 | h5
      · exact (hpr.rows q h5).but hB12 (fun _ _ e => e)
      · rw [List.mem_singleton] at h5
        subst h5
        exact (ho.mono (by omega)).but hB12 (fun _ _ e => e)
    refine own_on2 h2 hb3 (fun b hb5 e => ?_)
    rcases hsl2 with ⟨e2, _⟩ | ⟨g2, o2, c5, e2, C, hC, _⟩
    · rw [e2] at e; cases e
    · rw [e2] at e
      have e : g2 = b := by simpa [Value.ownBlock] using e
      subst e
      exact own_not h2 hC (by decide) hb5
  refine ⟨A3, c3, w3, hrun, ⟨(href.but hB12 (fun _ _ e => e)).but hb3 (fun j hj e => by have := hlt j hj; have := hown j e; omega), ⟨?_, rowOk, fun b hb5 => ?_⟩, ?_⟩⟩
  · rw [List.length_append, hm, flatQ_app]
    exact hs3
  · rcases ho3 with e | e
    · exact hown b (by rw [← e]; exact hb5)
    · rw [e] at hb5
      injection hb5 with hb5
      omega
  · exact ((hall.trans hda).trans (hB12.mono (fun _ _ e => e.elim))).trans2 hb3 (fun j hj e => by have := hown j e; omega)
def RSendX (T : Nat → Prop) (g : Nat) (first : Int) (N : Nat) (s : XS) (ps : List (Int × List Int)) (er : Int) (w : World) (e : Ending) (w' : World) : Prop :=
  ∃ v qs, e = .returned (.tuple #[v, .int .i64 er]) ∧ PcsX w' 57 w.heap.size v qs ∧ qs.map toldQ = ps ∧ ∃ A c W a, RefX w' T g A c first W a s ∧ But T w w' ∧ W.length ≤ N
set_option maxHeartbeats 8000000 in
theorem rsend19_any {w : World} {T : Nat → Prop} {g c a : Nat} {A : Option Addr} {first : Int} {W : List Int} {s : XS} (h : RefX w T g A c first W a s) (mss : Int) :
    Calls Try.prog 16 #[.pointer (some ⟨g, 0, none⟩), .int .i64 mss] w (RSendX T g first W.length (sendS mss s) (sendL mss s) (sendE mss) w) := by
  have H := Lib.hid h
  by_cases hm : mss < 1 ∨ 1500 < mss
  · have hbad : badM mss = true := decide_eq_true hm
    have HF := Lib.hid (show RSendX T g first W.length (sendS mss s) (sendL mss s) (sendE mss) w (.returned (.tuple #[.slice none 0 0, .int .i64 1])) w from by
      unfold sendS sendL sendE
      rw [if_pos hbad, if_pos hbad, if_pos hbad]
      exact ⟨.slice none 0 0, [], rfl, ⟨.inl ⟨rfl, rfl, rfl⟩, fun q hq => by simp at hq, fun b hb => (by cases hb)⟩, rfl, A, c, W, a, h, But.refl _ _, Nat.le_refl _⟩)
    by_cases hm1 : mss < 1
    · clear h hm hbad
      go_enter Try.func16, Try.ntmps16
      go_wp2_with fail
      go_ret2
      exact HF.out
    · have hm2 : 1500 < mss := by omega
      clear h hm hbad
      go_enter Try.func16, Try.ntmps16
      go_wp2_with fail
      go_ret2
      exact HF.out
  · have hm1 : ¬ mss < 1 := by omega
    have hm2 : ¬ 1500 < mss := by omega
    have hbad : ¬ badM mss = true := by unfold badM; simp; omega
    obtain ⟨lim, elim⟩ : ∃ n, limX s = n := ⟨_, rfl⟩
    obtain ⟨n, en⟩ : ∃ n, W.length = n := ⟨_, rfl⟩
    obtain ⟨wn, ewn⟩ : ∃ n, s.win = n := ⟨_, rfl⟩
    obtain ⟨lb, elb⟩ : ∃ n, s.bs.length = n := ⟨_, rfl⟩
    have hlim : lim ≤ lb := by rw [← elim, ← elb]; exact lim_le s
    have hlen := h.ok.len
    rw [elb] at hlen
    have hbl := h.blen
    rw [en, elb] at hbl
    have hbig := h.big
    rw [en] at hbig
    have hwin := h.ok.win
    rw [ewn] at hwin
    have hlw : lim = min lb wn.toNat := by rw [← elim]; unfold limX; rw [elb, ewn]
    have Hnum := Lib.hid (show ¬ badM mss = true ∧ 1 ≤ mss ∧ mss ≤ 1500 ∧ lim ≤ s.bs.length ∧ s.bs.length ≤ 16384 ∧ limX s = lim ∧ (s.bs.length = lb ∧ a + lb = n ∧ n ≤ 1000000000 ∧ (0 ≤ wn ∧ wn ≤ 1073741824) ∧ lim = min lb wn.toNat) from ⟨hbad, by omega, by omega, by omega, by omega, elim, elb, hbl, hbig, hwin, hlw⟩)
    have HEn := Lib.hid en
    have Ewn := Lib.hid ewn
    have HS0 := Lib.hid (show SrX w T g A c first W a s s.sent (.slice none 0 0) [] w from ⟨h, ⟨.inl ⟨rfl, rfl, rfl⟩, fun q hq => by simp at hq, fun b hb => (by cases hb)⟩, But.refl _ _⟩)
    clear h hm hbad elim en ewn elb hlim hlen hbl hbig hwin hlw
    go_enter Try.func16, Try.ntmps16
    go_wp2_with fail
    clear hm1 hm2
    go_loopg [6] (lim - s.sent) (fun gk x6 wr => ∃ (k m : Nat) (A2 : Option Addr) (c2 : Nat) (qs : List PQ), Hid (gk = lim - k) ∧ Hid (s.sent ≤ k ∧ k ≤ max s.sent lim ∧ m ≤ k ∧ qs.length = m) ∧ Hid (qs.map toldQ ++ toldX mss.toNat s k = sendL mss s) ∧ x6 = .slice A2 m c2 ∧ Hid (SrX w T g A c first W a s k (.slice A2 m c2) qs wr))
    case atStart => exact ⟨s.sent, 0, none, 0, [], Lib.hid rfl, Lib.hid ⟨Nat.le_refl _, by omega, Nat.zero_le _, rfl⟩, Lib.hid (by rw [List.map_nil, List.nil_append]; exact (sendL_told mss s Hnum.out.1).symm), rfl, HS0⟩
    case round =>
      obtain ⟨k, m, A2, c2, qs, hgk, hk, htd, rfl, HS⟩ := hrel
      obtain rfl : gk = lim - k := hgk.out
      clear hgk
      obtain ⟨M, eM⟩ : ∃ M, a + k = M := ⟨_, rfl⟩
      have hks : k ≤ s.bs.length := HS.out.ref.ok.sent
      obtain ⟨-, hm1, hm2, hl1, hl2, hl3, hl4, hl5, hl6, hl7, hl8⟩ := Hnum.out
      have HC4 := Lib.hid (show wr.cell? ⟨g, 3, none⟩ = some (.int .i64 (M : Int)) ∧ wr.cell? ⟨g, 0, none⟩ = some (.slice A n c) ∧ wr.cell? ⟨g, 2, none⟩ = some (.int .i64 (a : Int)) ∧ wr.cell? ⟨g, 4, none⟩ = some (.int .u32 wn) from
        ⟨by rw [← eM]; exact HS.out.ref.c3, by rw [← HEn.out]; exact HS.out.ref.c0, HS.out.ref.c2, by rw [← Ewn.out]; exact HS.out.ref.c4⟩)
      have u7 : IntKind.i64.wrap ((M : Int) - (a : Int)) = (k : Int) := by rw [IntKind.wrap_i64]; omega
      have u8 : IntKind.i64.wrap wn = wn := by rw [IntKind.wrap_i64]; omega
      by_cases hkl : k < lim
      · have q1 : (M : Int) < (n : Int) := by omega
        have q2 : (k : Int) < wn := by omega
        obtain ⟨k1, k2, k3, k4⟩ := hk.out
        obtain ⟨t0, et0⟩ : ∃ t, min mss.toNat (lim - k) = t := ⟨_, rfl⟩
        have hst := toldX_step mss.toNat s k t0 (by omega) (by omega) (by rw [hl3]; exact et0.symm)
        obtain ⟨u, eu⟩ : ∃ u, numX (s.una + (k : Int)) = u := ⟨_, rfl⟩
        rw [eu] at hst
        have Hk2t := Lib.hid (show t0 = min mss.toNat (lim - k) ∧ 1 ≤ t0 ∧ k < lim ∧ m ≤ k ∧ qs.length = m ∧ s.sent ≤ k from ⟨et0.symm, by omega, hkl, k3, k4, k1⟩)
        have Hst := Lib.hid hst
        have Hnx := Lib.hid (show Calls Try.prog 28 #[.pointer (some ⟨g, 0, none⟩)] wr.drew (JustX (.int .u32 u) wr.drew) from by
          have := rnxt19_any (HS.out.ref.drewN 1)
          rw [show nxtX { s with sent := k } = u from eu] at this
          exact this)
        obtain ⟨wq, ewq⟩ : ∃ v, wr.drew = v := ⟨_, rfl⟩
        obtain ⟨y, ey⟩ : ∃ y, wq.heap.size = y := ⟨_, rfl⟩
        obtain ⟨w5, ew5⟩ : ∃ v, wq.alloc (.cells #[.int .u32 u, .slice none 0 0] 57) = v := ⟨_, rfl⟩
        have hb5 : Below wq.heap.size wq w5 := by rw [← ew5]; exact (Below.refl _ _).alloc (Nat.le_refl _) _
        have hp5 : w5.heap[y]? = some (.cells #[.int .u32 u, .slice none 0 0] 57 (0, 0)) := by rw [← ew5, ← ey]; exact heap_alloc_new wq _
        have hSq : SrX w T g A c first W a s k (.slice A2 m c2) qs wq := by
          rw [← ewq]
          exact ⟨HS.out.ref.drewN 1, HS.out.pcs.on ((Below.refl _ _).drew), HS.out.all.drew⟩
        have HD0 := Lib.hid (show SdX wq T g A c first W a s (k + 0) y u none 0 0 ((restX s k).take 0) w5 from ⟨hSq.ref.on hb5, hp5, by rw [List.take_zero]; exact OwnB.nil _ _, But.of hb5⟩)
        have Hwq := Lib.hid hSq.all
        have HPq := Lib.hid hSq.pcs
        have Hy := Lib.hid (show wq.heap.size ≤ y by omega)
        have Ewq := Lib.hid ewq
        have Ew5 := Lib.hid ew5
        have Ey := Lib.hid ey
        clear hm1 hm2 hl1 hl2 hl3 hl4 hl5 hl6 hl7 hl8 hks hkl k1 k2 k3 k4 et0 hst eu ewq ey ew5 hb5 hp5 hSq eM
        go_wp2_with fail
        refine wp_region_held_drew (S := fun w' => w'.cell? ⟨g, 3, none⟩ = some (.int .i64 (M : Int)) ∧ w'.cell? ⟨g, 0, none⟩ = some (.slice A n c) ∧ w'.cell? ⟨g, 2, none⟩ = some (.int .i64 (a : Int)) ∧ w'.cell? ⟨g, 4, none⟩ = some (.int .u32 wn)) (by kernel_rfl) (by exact HC4.out) (fun hHeld => ?_)
        refine tk 0 ?_ rfl ?_ ?_
        rotate_left
        · intro w' hSw; (go_simp <;> (with_reducible rfl))
        try simp only [Act.put, putL]
        refine tk 1 ?_ rfl ?_ ?_
        rotate_left
        · intro w' hSw; (go_simp <;> (with_reducible rfl))
        try simp only [Act.put, putL]
        refine tk 2 ?_ rfl ?_ ?_
        rotate_left
        · intro w' hSw; (go_simp <;> (with_reducible rfl))
        try simp only [Act.put, putL]
        refine tk 3 ?_ rfl ?_ ?_
        rotate_left
        · intro w' hSw; (go_simp <;> (with_reducible rfl))
        try simp only [Act.put, putL]
        refine tk 4 ?_ rfl ?_ ?_
        rotate_left
        · intro w' hSw; (go_simp <;> (with_reducible rfl))
        try simp only [Act.put, putL]
        refine tk 5 ?_ rfl ?_ ?_
        rotate_left
        · intro w' hSw; (go_simp <;> (with_reducible rfl))
        try simp only [Act.put, putL]
        refine tk 6 ?_ rfl ?_ ?_
        rotate_left
        · intro w' hSw; (go_simp <;> (with_reducible rfl))
        try simp only [Act.put, putL]
        refine tk 7 ?_ rfl ?_ ?_
        rotate_left
        · intro w' hSw; (go_simp <;> (with_reducible rfl))
        try simp only [Act.put, putL]
        refine tk 8 ?_ rfl ?_ ?_
        rotate_left
        · intro w' hSw; (go_simp <;> (with_reducible rfl))
        try simp only [Act.put, putL]
        refine tk 9 ?_ rfl ?_ ?_
        rotate_left
        · intro w' hSw; (go_simp <;> (with_reducible rfl))
        try simp only [Act.put, putL]
        refine tk 10 ?_ rfl ?_ ?_
        rotate_left
        · intro w' hSw; (go_simp <;> (with_reducible rfl))
        try simp only [Act.put, putL]
        refine tk 11 ?_ rfl ?_ ?_
        rotate_left
        · intro w' hSw; (go_simp <;> (with_reducible rfl))
        try simp only [Act.put, putL]
        refine tk 12 ?_ rfl ?_ ?_
        rotate_left
        · intro w' hSw; (go_simp <;> (with_reducible rfl))
        try simp only [Act.put, putL]
        refine tk 13 ?_ rfl ?_ ?_
        rotate_left
        · intro w' hSw; (go_simp <;> (with_reducible rfl))
        try simp only [Act.put, putL]
        refine tk 14 ?_ rfl ?_ ?_
        rotate_left
        · intro w' hSw; (go_simp <;> (with_reducible rfl))
        try simp only [Act.put, putL]
        refine tk 15 ?_ rfl ?_ ?_
        rotate_left
        · intro w' hSw; (go_simp <;> (with_reducible rfl))
        try simp only [Act.put, putL]
        refine tk 16 ?_ rfl ?_ ?_
        rotate_left
        · intro w' hSw; (go_simp <;> (with_reducible rfl))
        try simp only [Act.put, putL]
        refine tk 17 ?_ rfl ?_ ?_
        rotate_left
        · intro w' hSw; (go_simp <;> (with_reducible rfl))
        try simp only [Act.put, putL]
        refine tk 18 ?_ rfl ?_ ?_
        rotate_left
        · intro w' hSw; (go_simp <;> (with_reducible rfl))
        try simp only [Act.put, putL]
        refine tk 19 ?_ rfl ?_ ?_
        rotate_left
        · intro w' hSw; (go_simp <;> (with_reducible rfl))
        try simp only [Act.put, putL]
        refine tk 20 ?_ rfl ?_ ?_
        rotate_left
        · intro w' hSw; (go_simp <;> (with_reducible rfl))
        try simp only [Act.put, putL]
        refine tk 21 ?_ rfl ?_ ?_
        rotate_left
        · intro w' hSw; (go_simp <;> (with_reducible rfl))
        try simp only [Act.put, putL]
        refine tk 22 ?_ rfl ?_ ?_
        rotate_left
        · intro w' hSw; (go_simp <;> (with_reducible rfl))
        try simp only [Act.put, putL]
        refine tk 23 ?_ rfl ?_ ?_
        rotate_left
        · intro w' hSw; (go_simp <;> (with_reducible rfl))
        try simp only [Act.put, putL]
        refine tk 24 ?_ rfl ?_ ?_
        rotate_left
        · intro w' hSw; (go_simp <;> (with_reducible rfl))
        try simp only [Act.put, putL]
        refine tk 25 ?_ rfl ?_ ?_
        rotate_left
        · intro w' hSw; (go_simp <;> (with_reducible rfl))
        try simp only [Act.put, putL]
        refine tk 26 ?_ rfl ?_ ?_
        rotate_left
        · intro w' hSw; (go_simp <;> (with_reducible rfl))
        try simp only [Act.put, putL]
        refine wpAnyH_done (by kernel_rfl) ?_ _
        clear hHeld u7 u8 q1 q2 HC4 HS
        go_wp2_with fail
        refine Hnx.out.mono ?_
        rintro e wx ⟨rfl, rfl⟩
        rw [Ewq.out]
        go_upto_region 6 with (fail)
        try rw [Ey.out]
        try rw [Ew5.out]
        clear Ewq Ew5 Ey Hnx
        obtain ⟨wo, ewo⟩ : ∃ wo, wo = wr := ⟨_, rfl⟩
        subst ewo
        go_loopg [] t0 (fun gk wr => ∃ (t cp : Nat) (Ap : Option Addr), Hid (gk + t = t0) ∧ Hid (SdX wq T g A c first W a s (k + t) y u Ap t cp ((restX s k).take t) wr))
        case atStart => exact ⟨0, 0, none, Lib.hid (by omega), HD0⟩
        case round =>
          clear HD0
          obtain ⟨t, cp, Ap, hgk, HD⟩ := hrel
          obtain rfl : gk = t0 - t := by have := hgk.out; omega
          have htt : t ≤ t0 := by have := hgk.out; omega
          clear hgk
          obtain ⟨-, hm1, hm2, hl1, hl2, hl3, hl4, hl5, hl6, hl7, hl8⟩ := Hnum.out
          obtain ⟨j1, j2, j3, j4, j5, j6⟩ := Hk2t.out
          obtain ⟨M1, eM1⟩ : ∃ M, a + k + t = M := ⟨_, rfl⟩
          obtain ⟨K1, eK1⟩ : ∃ M, k + t = M := ⟨_, rfl⟩
          have HC6 := Lib.hid (show wr.cell? ⟨y, 1, none⟩ = some (.slice Ap t cp) ∧ wr.cell? ⟨g, 3, none⟩ = some (.int .i64 (M1 : Int)) ∧ wr.cell? ⟨g, 0, none⟩ = some (.slice A n c) ∧ wr.cell? ⟨g, 2, none⟩ = some (.int .i64 (a : Int)) ∧ wr.cell? ⟨g, 4, none⟩ = some (.int .u32 wn) from
            ⟨by rw [blk_cell HD.out.bp]; rfl, by rw [← eM1, Nat.add_assoc]; exact HD.out.ref.c3, by rw [← HEn.out]; exact HD.out.ref.c0, HD.out.ref.c2, by rw [← Ewn.out]; exact HD.out.ref.c4⟩)
          have u9 : IntKind.i64.wrap ((M1 : Int) - (a : Int)) = (K1 : Int) := by rw [IntKind.wrap_i64]; omega
          have u8 : IntKind.i64.wrap wn = wn := by rw [IntKind.wrap_i64]; omega
          by_cases htl : t < t0
          · have q1 : (t : Int) < mss := by omega
            have q2 : (M1 : Int) < (n : Int) := by omega
            have q3 : (K1 : Int) < wn := by omega
            have HIn := Lib.hid (show M1 < n ∧ (t < t0 ∧ M1 ≤ 2000000000 ∧ t ≤ 16384) ∧ k + t < limX s ∧ M1 = a + k + t from ⟨by omega, by omega, by omega, eM1.symm⟩)
            clear htt hm1 hm2 hl1 hl2 hl3 hl4 hl5 hl6 hl7 hl8 j1 j2 j3 j4 j5 j6 eM1 eK1 htl
            go_wp2_with fail
            refine wp_region_held_drew (S := fun w' => w'.cell? ⟨y, 1, none⟩ = some (.slice Ap t cp) ∧ w'.cell? ⟨g, 3, none⟩ = some (.int .i64 (M1 : Int)) ∧ w'.cell? ⟨g, 0, none⟩ = some (.slice A n c) ∧ w'.cell? ⟨g, 2, none⟩ = some (.int .i64 (a : Int)) ∧ w'.cell? ⟨g, 4, none⟩ = some (.int .u32 wn)) (by kernel_rfl) (by exact HC6.out) (fun hHeld => ?_)
            refine tk 0 ?_ rfl ?_ ?_
            rotate_left
            · intro w' hSw; (go_simp <;> (with_reducible rfl))
            try simp only [Act.put, putL]
            refine tk 1 ?_ rfl ?_ ?_
            rotate_left
            · intro w' hSw; (go_simp <;> (with_reducible rfl))
            try simp only [Act.put, putL]
            refine tk 2 ?_ rfl ?_ ?_
            rotate_left
            · intro w' hSw; (go_simp <;> (with_reducible rfl))
            try simp only [Act.put, putL]
            refine tk 3 ?_ rfl ?_ ?_
            rotate_left
            · intro w' hSw; (go_simp <;> (with_reducible rfl))
            try simp only [Act.put, putL]
            refine tk 4 ?_ rfl ?_ ?_
            rotate_left
            · intro w' hSw; (go_simp <;> (with_reducible rfl))
            try simp only [Act.put, putL]
            refine tk 5 ?_ rfl ?_ ?_
            rotate_left
            · intro w' hSw; (go_simp <;> (with_reducible rfl))
            try simp only [Act.put, putL]
            refine tk 6 ?_ rfl ?_ ?_
            rotate_left
            · intro w' hSw; (go_simp <;> (with_reducible rfl))
            try simp only [Act.put, putL]
            refine tk 7 ?_ rfl ?_ ?_
            rotate_left
            · intro w' hSw; (go_simp <;> (with_reducible rfl))
            try simp only [Act.put, putL]
            refine tk 8 ?_ rfl ?_ ?_
            rotate_left
            · intro w' hSw; (go_simp <;> (with_reducible rfl))
            try simp only [Act.put, putL]
            refine tk 9 ?_ rfl ?_ ?_
            rotate_left
            · intro w' hSw; (go_simp <;> (with_reducible rfl))
            try simp only [Act.put, putL]
            refine tk 10 ?_ rfl ?_ ?_
            rotate_left
            · intro w' hSw; (go_simp <;> (with_reducible rfl))
            try simp only [Act.put, putL]
            refine tk 11 ?_ rfl ?_ ?_
            rotate_left
            · intro w' hSw; (go_simp <;> (with_reducible rfl))
            try simp only [Act.put, putL]
            refine tk 12 ?_ rfl ?_ ?_
            rotate_left
            · intro w' hSw; (go_simp <;> (with_reducible rfl))
            try simp only [Act.put, putL]
            refine tk 13 ?_ rfl ?_ ?_
            rotate_left
            · intro w' hSw; (go_simp <;> (with_reducible rfl))
            try simp only [Act.put, putL]
            refine tk 14 ?_ rfl ?_ ?_
            rotate_left
            · intro w' hSw; (go_simp <;> (with_reducible rfl))
            try simp only [Act.put, putL]
            refine tk 15 ?_ rfl ?_ ?_
            rotate_left
            · intro w' hSw; (go_simp <;> (with_reducible rfl))
            try simp only [Act.put, putL]
            refine tk 16 ?_ rfl ?_ ?_
            rotate_left
            · intro w' hSw; (go_simp <;> (with_reducible rfl))
            try simp only [Act.put, putL]
            refine tk 17 ?_ rfl ?_ ?_
            rotate_left
            · intro w' hSw; (go_simp <;> (with_reducible rfl))
            try simp only [Act.put, putL]
            refine tk 18 ?_ rfl ?_ ?_
            rotate_left
            · intro w' hSw; (go_simp <;> (with_reducible rfl))
            try simp only [Act.put, putL]
            refine tk 19 ?_ rfl ?_ ?_
            rotate_left
            · intro w' hSw; (go_simp <;> (with_reducible rfl))
            try simp only [Act.put, putL]
            refine tk 20 ?_ rfl ?_ ?_
            rotate_left
            · intro w' hSw; (go_simp <;> (with_reducible rfl))
            try simp only [Act.put, putL]
            refine tk 21 ?_ rfl ?_ ?_
            rotate_left
            · intro w' hSw; (go_simp <;> (with_reducible rfl))
            try simp only [Act.put, putL]
            refine tk 22 ?_ rfl ?_ ?_
            rotate_left
            · intro w' hSw; (go_simp <;> (with_reducible rfl))
            try simp only [Act.put, putL]
            refine tk 23 ?_ rfl ?_ ?_
            rotate_left
            · intro w' hSw; (go_simp <;> (with_reducible rfl))
            try simp only [Act.put, putL]
            refine tk 24 ?_ rfl ?_ ?_
            rotate_left
            · intro w' hSw; (go_simp <;> (with_reducible rfl))
            try simp only [Act.put, putL]
            refine tk 25 ?_ rfl ?_ ?_
            rotate_left
            · intro w' hSw; (go_simp <;> (with_reducible rfl))
            try simp only [Act.put, putL]
            refine tk 26 ?_ rfl ?_ ?_
            rotate_left
            · intro w' hSw; (go_simp <;> (with_reducible rfl))
            try simp only [Act.put, putL]
            refine tk 27 ?_ rfl ?_ ?_
            rotate_left
            · intro w' hSw; (go_simp <;> (with_reducible rfl))
            try simp only [Act.put, putL]
            refine tk 28 ?_ rfl ?_ ?_
            rotate_left
            · intro w' hSw; (go_simp <;> (with_reducible rfl))
            try simp only [Act.put, putL]
            refine tk 29 ?_ rfl ?_ ?_
            rotate_left
            · intro w' hSw; (go_simp <;> (with_reducible rfl))
            try simp only [Act.put, putL]
            refine tk 30 ?_ rfl ?_ ?_
            rotate_left
            · intro w' hSw; (go_simp <;> (with_reducible rfl))
            try simp only [Act.put, putL]
            refine tk 31 ?_ rfl ?_ ?_
            rotate_left
            · intro w' hSw; (go_simp <;> (with_reducible rfl))
            try simp only [Act.put, putL]
            refine tk 32 ?_ rfl ?_ ?_
            rotate_left
            · intro w' hSw; (go_simp <;> (with_reducible rfl))
            try simp only [Act.put, putL]
            refine tk 33 ?_ rfl ?_ ?_
            rotate_left
            · intro w' hSw; (go_simp <;> (with_reducible rfl))
            try simp only [Act.put, putL]
            refine wpAnyH_done (by kernel_rfl) ?_ _
            clear hHeld
            obtain ⟨wv, ewv⟩ : ∃ v, wr.drew = v := ⟨_, rfl⟩
            have HTv := Lib.hid (show SdX wq T g A c first W a s (k + t) y u Ap t cp ((restX s k).take t) wv by rw [← ewv]; exact HD.out.drewN 1)
            rw [ewv]
            clear ewv q1 q2 q3 u9 u8
            obtain ⟨p, hx, hc0, hp⟩ := HTv.out.ref.row.index (c := c) (j := M1) (by rw [HEn.out]; exact HIn.out.1)
            obtain ⟨p2, hx2, -, hp2⟩ := H.out.row.index (c := c) (j := M1) (by rw [HEn.out]; exact HIn.out.1)
            obtain rfl : p = p2 := by
              have e1 := hx w
              rw [hx2 w] at e1
              injection e1 with e1
              injection e1 with e1
              injection e1 with e1
              exact e1.symm
            rw [HEn.out] at hx
            obtain ⟨x, ex⟩ : ∃ x, W.getD M1 0 = x := ⟨_, rfl⟩
            rw [ex] at hc0
            have hIW : M1 < W.length := by rw [HEn.out]; exact HIn.out.1
            have exl : W[M1] = x := by rw [← ex, List.getD, List.getElem?_eq_getElem hIW]; rfl
            have hxb : 0 ≤ x ∧ x < 256 := by rw [← exl]; exact H.out.row.byte _ (List.getElem_mem hIW)
            have hqlt : ∀ j, T j → j < wq.heap.size := fun j hj => Nat.lt_of_lt_of_le (H.out.lt j hj) Hwq.out.size
            obtain ⟨A3, c3, w7, hrun, hcg, hy1, hyf, hT2, hcp⟩ := HTv.out.more hqlt Hy.out (by have := HIn.out; have := Hnum.out; omega) x hxb
            have htk : (restX s k).take t ++ [x] = (restX s k).take (t + 1) := by
              rw [restX_take s k t HIn.out.2.2.1]
              have e1 : s.bs.getD (k + t) 0 = x := by
                rw [H.out.bs, ← ex, HIn.out.2.2.2]
                simp [List.getD, List.getElem?_drop, Nat.add_assoc]
              rw [e1]
            rw [htk] at hT2
            have k0 : wv.cell? ⟨g, 0, none⟩ = some (.slice A n c) := by rw [← HEn.out]; exact HTv.out.ref.c0
            have k3 : wv.cell? ⟨g, 3, none⟩ = some (.int .i64 (M1 : Int)) := by rw [HIn.out.2.2.2, Nat.add_assoc]; exact HTv.out.ref.c3
            have k1 : wv.cell? ⟨y, 1, none⟩ = some (.slice Ap t cp) := by rw [blk_cell HTv.out.bp]; rfl
            have hglt := HTv.out.ref.lt g HTv.out.ref.sg
            have hbA : But (fun _ => False) wv (wv.drew.alloc (.cells #[.int .u8 x] 5)) := ((But.refl _ _).drew).alloc _
            have HSA := Lib.hid (show (wv.drew.alloc (.cells #[.int .u8 x] 5)).cell? ⟨y, 1, none⟩ = some (.slice Ap t cp) ∧ (wv.drew.alloc (.cells #[.int .u8 x] 5)).cell? ⟨g, 0, none⟩ = some (.slice A n c) ∧ (wv.drew.alloc (.cells #[.int .u8 x] 5)).cell? ⟨g, 3, none⟩ = some (.int .i64 (M1 : Int)) ∧ (wv.drew.alloc (.cells #[.int .u8 x] 5)).cell? p = some (.int .u8 x) from
              ⟨(hbA.cell (p := ⟨y, 1, none⟩) (lt_of_block HTv.out.bp) (fun h => h)).trans k1, (hbA.cell (p := ⟨g, 0, none⟩) hglt (fun h => h)).trans k0, (hbA.cell (p := ⟨g, 3, none⟩) hglt (fun h => h)).trans k3, (hbA.cell (p := p) hp (fun h => h)).trans hc0⟩)
            have HS7 := Lib.hid (show w7.cell? ⟨y, 1, none⟩ = some (.slice Ap t cp) ∧ w7.cell? ⟨g, 0, none⟩ = some (.slice A n c) ∧ w7.cell? ⟨g, 3, none⟩ = some (.int .i64 (M1 : Int)) ∧ w7.cell? p = some (.int .u8 x) from ⟨hy1, hcg _ _ k0, hcg _ _ k3, hcp p _ (by have := Hwq.out.size; omega) hc0⟩)
            have HS0 := Lib.hid (show wv.drew.cell? ⟨y, 1, none⟩ = some (.slice Ap t cp) ∧ wv.drew.cell? ⟨g, 0, none⟩ = some (.slice A n c) ∧ wv.drew.cell? ⟨g, 3, none⟩ = some (.int .i64 (M1 : Int)) ∧ wv.drew.cell? p = some (.int .u8 x) from ⟨k1, k0, k3, hc0⟩)
            have HY7 := Lib.hid (And.intro hy1 hyf)
            have Hrun := Lib.hid hrun
            obtain ⟨w8, ew8⟩ : ∃ v, w7.setCell ⟨y, 1, none⟩ (.slice A3 (t + 1) c3) = v := ⟨_, rfl⟩
            rw [ew8] at hT2
            have HT2 := Lib.hid hT2
            have Ew8 := Lib.hid ew8
            obtain ⟨M2, eM2⟩ : ∃ v : Int, (M1 : Int) + 1 = v := ⟨_, rfl⟩
            obtain ⟨w9, ew9⟩ : ∃ v, w8.setCell ⟨g, 3, none⟩ (.int .i64 M2) = v := ⟨_, rfl⟩
            have hT3 := hT2.sent hqlt Hy.out (by have := HIn.out.2.2.1; unfold limX at this; omega) M2 (by rw [← eM2, HIn.out.2.2.2]; omega)
            rw [ew9] at hT3
            have HT3 := Lib.hid hT3
            have e3 : w8.cell? ⟨g, 3, none⟩ = some (.int .i64 (M1 : Int)) := by rw [HIn.out.2.2.2, Nat.add_assoc]; exact hT2.ref.c3
            have ef3 := hT2.ref.free 3
            have u10 := Lib.hid (show wrap64 ((M1 : Int) + 1) = M2 by rw [IntWalk.wrap64_in _ (by have := HIn.out.2.1; omega)]; exact eM2)
            have Ew9 := Lib.hid ew9
            clear hx2 hp2 hp hc0 ex hIW exl hxb hqlt hrun hcg hy1 hyf hT2 hcp htk k0 k1 k3 hglt hbA ew8 eM2 ew9 hT3
            go_wp2_with fail
            refine wp_region_heldL (S := fun w' => w'.cell? ⟨y, 1, none⟩ = some (.slice Ap t cp) ∧ w'.cell? ⟨g, 0, none⟩ = some (.slice A n c) ∧ w'.cell? ⟨g, 3, none⟩ = some (.int .i64 (M1 : Int)) ∧ w'.cell? p = some (.int .u8 x)) 15 (by kernel_rfl) (by exact HS0.out) (fun hHeld => ?_)
            refine anyHL_take (i := 0) (oi := { dst := some 78, op := Go.Op.fieldAddr 57 (Go.Operand.tmp 7) 1, type := 0, pos := "ref.go:85", after := #[], guard := none }) (v := ?_) rfl (by kernel_rfl) (by kernel_rfl) (by kernel_rfl) (by kernel_rfl) (fun _ _ _ h => h) (Or.inl ⟨by rfl, ?_⟩) (by assumption) ?_
            rotate_left 1
            · intro w' hSw; (go_simp <;> (with_reducible rfl))
            (try simp only [Act.put, List.setIfInBounds_toArray, List.set_cons_zero, List.set_cons_succ])
            refine anyHL_take (i := 1) (oi := { dst := some 79, op := Go.Op.load 37 (Go.Operand.tmp 78), type := 37, pos := "ref.go:85", after := #[{ on := 0, ground := Go.Ground.data }], guard := none }) (v := ?_) rfl (by kernel_rfl) (by kernel_rfl) (by kernel_rfl) (by kernel_rfl) (fun _ _ _ h => h) (Or.inl ⟨by rfl, ?_⟩) (by assumption) ?_
            rotate_left 1
            · intro w' hSw; (go_simp <;> (with_reducible rfl))
            (try simp only [Act.put, List.setIfInBounds_toArray, List.set_cons_zero, List.set_cons_succ])
            refine anyHL_take (i := 2) (oi := { dst := some 80, op := Go.Op.move (Go.Operand.tmp 0), type := 31, pos := "ref.go:85", after := #[], guard := none }) (v := ?_) rfl (by kernel_rfl) (by kernel_rfl) (by kernel_rfl) (by kernel_rfl) (fun _ _ _ h => h) (Or.inl ⟨by rfl, ?_⟩) (by assumption) ?_
            rotate_left 1
            · intro w' hSw; (go_simp <;> (with_reducible rfl))
            (try simp only [Act.put, List.setIfInBounds_toArray, List.set_cons_zero, List.set_cons_succ])
            refine anyHL_take (i := 3) (oi := { dst := some 81, op := Go.Op.nilCheck (Go.Operand.tmp 80), type := 0, pos := "ref.go:85", after := #[{ on := 2, ground := Go.Ground.data }], guard := none }) (v := ?_) rfl (by kernel_rfl) (by kernel_rfl) (by kernel_rfl) (by kernel_rfl) (fun _ _ _ h => h) (Or.inl ⟨by rfl, ?_⟩) (by assumption) ?_
            rotate_left 1
            · intro w' hSw; (go_simp <;> (with_reducible rfl))
            (try simp only [Act.put, List.setIfInBounds_toArray, List.set_cons_zero, List.set_cons_succ])
            refine anyHL_take (i := 4) (oi := { dst := some 82, op := Go.Op.fieldAddr 64 (Go.Operand.tmp 81) 0, type := 0, pos := "ref.go:85", after := #[{ on := 3, ground := Go.Ground.data }], guard := none }) (v := ?_) rfl (by kernel_rfl) (by kernel_rfl) (by kernel_rfl) (by kernel_rfl) (fun _ _ _ h => h) (Or.inl ⟨by rfl, ?_⟩) (by assumption) ?_
            rotate_left 1
            · intro w' hSw; (go_simp <;> (with_reducible rfl))
            (try simp only [Act.put, List.setIfInBounds_toArray, List.set_cons_zero, List.set_cons_succ])
            refine anyHL_take (i := 5) (oi := { dst := some 83, op := Go.Op.load 37 (Go.Operand.tmp 82), type := 37, pos := "ref.go:85", after := #[{ on := 4, ground := Go.Ground.data }], guard := none }) (v := ?_) rfl (by kernel_rfl) (by kernel_rfl) (by kernel_rfl) (by kernel_rfl) (fun _ _ _ h => h) (Or.inl ⟨by rfl, ?_⟩) (by assumption) ?_
            rotate_left 1
            · intro w' hSw; (go_simp <;> (with_reducible rfl))
            (try simp only [Act.put, List.setIfInBounds_toArray, List.set_cons_zero, List.set_cons_succ])
            refine anyHL_take (i := 6) (oi := { dst := some 84, op := Go.Op.move (Go.Operand.tmp 0), type := 31, pos := "ref.go:85", after := #[], guard := none }) (v := ?_) rfl (by kernel_rfl) (by kernel_rfl) (by kernel_rfl) (by kernel_rfl) (fun _ _ _ h => h) (Or.inl ⟨by rfl, ?_⟩) (by assumption) ?_
            rotate_left 1
            · intro w' hSw; (go_simp <;> (with_reducible rfl))
            (try simp only [Act.put, List.setIfInBounds_toArray, List.set_cons_zero, List.set_cons_succ])
            refine anyHL_take (i := 7) (oi := { dst := some 85, op := Go.Op.nilCheck (Go.Operand.tmp 84), type := 0, pos := "ref.go:85", after := #[{ on := 6, ground := Go.Ground.data }], guard := none }) (v := ?_) rfl (by kernel_rfl) (by kernel_rfl) (by kernel_rfl) (by kernel_rfl) (fun _ _ _ h => h) (Or.inl ⟨by rfl, ?_⟩) (by assumption) ?_
            rotate_left 1
            · intro w' hSw; (go_simp <;> (with_reducible rfl))
            (try simp only [Act.put, List.setIfInBounds_toArray, List.set_cons_zero, List.set_cons_succ])
            refine anyHL_take (i := 8) (oi := { dst := some 86, op := Go.Op.fieldAddr 64 (Go.Operand.tmp 85) 3, type := 0, pos := "ref.go:85", after := #[{ on := 7, ground := Go.Ground.data }], guard := none }) (v := ?_) rfl (by kernel_rfl) (by kernel_rfl) (by kernel_rfl) (by kernel_rfl) (fun _ _ _ h => h) (Or.inl ⟨by rfl, ?_⟩) (by assumption) ?_
            rotate_left 1
            · intro w' hSw; (go_simp <;> (with_reducible rfl))
            (try simp only [Act.put, List.setIfInBounds_toArray, List.set_cons_zero, List.set_cons_succ])
            refine anyHL_take (i := 9) (oi := { dst := some 87, op := Go.Op.load 3 (Go.Operand.tmp 86), type := 3, pos := "ref.go:85", after := #[{ on := 8, ground := Go.Ground.data }], guard := none }) (v := ?_) rfl (by kernel_rfl) (by kernel_rfl) (by kernel_rfl) (by kernel_rfl) (fun _ _ _ h => h) (Or.inl ⟨by rfl, ?_⟩) (by assumption) ?_
            rotate_left 1
            · intro w' hSw; (go_simp <;> (with_reducible rfl))
            (try simp only [Act.put, List.setIfInBounds_toArray, List.set_cons_zero, List.set_cons_succ])
            refine anyHL_take (i := 10) (oi := { dst := some 88, op := Go.Op.indexAddr 37 (Go.Operand.tmp 83) (Go.Operand.tmp 87), type := 0, pos := "ref.go:85", after := #[{ on := 5, ground := Go.Ground.data }, { on := 9, ground := Go.Ground.data }], guard := none }) (v := ?_) rfl (by kernel_rfl) (by kernel_rfl) (by kernel_rfl) (by kernel_rfl) (fun _ _ _ h => h) (Or.inl ⟨by rfl, ?_⟩) (by assumption) ?_
            rotate_left 1
            · intro w' hSw; (go_simp <;> (with_reducible rfl))
            (try simp only [Act.put, List.setIfInBounds_toArray, List.set_cons_zero, List.set_cons_succ])
            refine anyHL_take (i := 11) (oi := { dst := some 89, op := Go.Op.load 5 (Go.Operand.tmp 88), type := 5, pos := "ref.go:85", after := #[{ on := 10, ground := Go.Ground.data }], guard := none }) (v := ?_) rfl (by kernel_rfl) (by kernel_rfl) (by kernel_rfl) (by kernel_rfl) (fun _ _ _ h => h) (Or.inl ⟨by rfl, ?_⟩) (by assumption) ?_
            rotate_left 1
            · intro w' hSw; (go_simp <;> (with_reducible rfl))
            (try simp only [Act.put, List.setIfInBounds_toArray, List.set_cons_zero, List.set_cons_succ])
            refine anyHL_one (i := 12) (o := { dst := some 90, op := Go.Op.buildSlice 37 1 #[(0, Go.Operand.tmp 89)], type := 37, pos := "ref.go:85", after := #[{ on := 11, ground := Go.Ground.data }], guard := none }) (by kernel_rfl) rfl (by kernel_rfl) (fun K hK => ?_)
            go_simp
            skip
            refine hK.out _ _ ?_ (fun hHeld => ?_)
            · exact HSA.out
            clear hK K
            (try simp only [Act.put, List.setIfInBounds_toArray, List.set_cons_zero, List.set_cons_succ])
            refine anyHL_one (i := 13) (o := { dst := some 91, op := Go.Op.call { callee := Go.Callee.builtin Go.Builtin.append, args := #[Go.Operand.tmp 79, Go.Operand.tmp 90], argTypes := #[37, 37] }, type := 37, pos := "ref.go:85", after := #[{ on := 1, ground := Go.Ground.data }, { on := 12, ground := Go.Ground.data }], guard := none }) (by kernel_rfl) rfl (by kernel_rfl) (fun K hK => ?_)
            refine step_appX rfl (.tmp 79) (.tmp 90) _ _ rfl rfl _ _ _ w7 rfl rfl Hrun.out ?_
            refine hK.out _ _ ?_ (fun hHeld => ?_)
            · exact HS7.out
            clear hK K
            (try simp only [Act.put, List.setIfInBounds_toArray, List.set_cons_zero, List.set_cons_succ])
            refine anyHL_take (i := 14) (oi := { dst := some 92, op := Go.Op.fieldAddr 57 (Go.Operand.tmp 7) 1, type := 0, pos := "ref.go:85", after := #[{ on := 0, ground := Go.Ground.phase }, { on := 1, ground := Go.Ground.phase }, { on := 2, ground := Go.Ground.phase }, { on := 3, ground := Go.Ground.phase }, { on := 4, ground := Go.Ground.phase }, { on := 5, ground := Go.Ground.phase }, { on := 6, ground := Go.Ground.phase }, { on := 7, ground := Go.Ground.phase }, { on := 8, ground := Go.Ground.phase }, { on := 9, ground := Go.Ground.phase }, { on := 10, ground := Go.Ground.phase }, { on := 11, ground := Go.Ground.phase }, { on := 12, ground := Go.Ground.phase }, { on := 13, ground := Go.Ground.phase }], guard := none }) (v := ?_) rfl (by kernel_rfl) (by kernel_rfl) (by kernel_rfl) (by kernel_rfl) (fun _ _ _ h => h) (Or.inl ⟨by rfl, ?_⟩) (by assumption) ?_
            rotate_left 1
            · intro w' hSw; (go_simp <;> (with_reducible rfl))
            (try simp only [Act.put, List.setIfInBounds_toArray, List.set_cons_zero, List.set_cons_succ])
            obtain ⟨d0, d1⟩ := HY7.out
            refine anyHL_last (o := { dst := none, op := Go.Op.store 37 (Go.Operand.tmp 92) (Go.Operand.tmp 91), type := 0, pos := "ref.go:85", after := #[{ on := 14, ground := Go.Ground.data }, { on := 13, ground := Go.Ground.data }, { on := 13, ground := Go.Ground.chain }, { on := 0, ground := Go.Ground.phase }, { on := 1, ground := Go.Ground.phase }, { on := 2, ground := Go.Ground.phase }, { on := 3, ground := Go.Ground.phase }, { on := 4, ground := Go.Ground.phase }, { on := 5, ground := Go.Ground.phase }, { on := 6, ground := Go.Ground.phase }, { on := 7, ground := Go.Ground.phase }, { on := 8, ground := Go.Ground.phase }, { on := 9, ground := Go.Ground.phase }, { on := 10, ground := Go.Ground.phase }, { on := 11, ground := Go.Ground.phase }, { on := 12, ground := Go.Ground.phase }, { on := 13, ground := Go.Ground.phase }], guard := none }) (by kernel_rfl) rfl (by kernel_rfl) (fun K hK => ?_)
            go_simp
            skip
            refine hK.out _ _ ?_
            clear hK K
            (try simp only [Act.put, List.setIfInBounds_toArray, List.set_cons_zero, List.set_cons_succ])
            rw [Ew8.out]
            clear hx
            have u10 := u10.out
            go_wp2_with fail
            rw [Ew9.out]
            clear u10 e3 ef3
            go_roundg (t0 - (t + 1))
            case measure => have := HIn.out.2.1; omega
            case rel => exact ⟨t + 1, c3, A3, Lib.hid (by have := HIn.out.2.1; omega), HT3⟩
          · obtain rfl : t = t0 := by omega
            have Hk2 := Lib.hid (show s.sent ≤ k + t ∧ k + t ≤ max s.sent lim ∧ m + 1 ≤ k + t ∧ m ≤ 100000 ∧ qs.length = m ∧ lim - (k + t) < lim - k ∧ True from ⟨by omega, by omega, by omega, by omega, j5, by omega, trivial⟩)
            have Htd2 := Lib.hid (show ∀ A' c', (qs ++ [(⟨u, A', c', (restX s k).take t⟩ : PQ)]).map toldQ ++ toldX mss.toNat s (k + t) = sendL mss s from fun A' c' => by
              rw [← htd.out, Hst.out, List.map_append, List.append_assoc]
              rfl)
            by_cases htm : (t : Int) < mss
            · have q1 := htm
              have hKl : K1 = lim := by omega
              by_cases hMn : M1 < n
              · have q2 : (M1 : Int) < (n : Int) := by omega
                have q3 : ((K1 : Int) < wn) = False := eq_false (by omega)
                clear htt hm1 hm2 hl1 hl2 hl3 hl4 hl5 hl6 hl7 hl8 j1 j2 j3 j4 j5 j6 eM1 eK1 htl htm hKl hMn
                go_wp2_with fail
                refine wp_region_held_drew (S := fun w' => w'.cell? ⟨y, 1, none⟩ = some (.slice Ap t cp) ∧ w'.cell? ⟨g, 3, none⟩ = some (.int .i64 (M1 : Int)) ∧ w'.cell? ⟨g, 0, none⟩ = some (.slice A n c) ∧ w'.cell? ⟨g, 2, none⟩ = some (.int .i64 (a : Int)) ∧ w'.cell? ⟨g, 4, none⟩ = some (.int .u32 wn)) (by kernel_rfl) (by exact HC6.out) (fun hHeld => ?_)
                refine tk 0 ?_ rfl ?_ ?_
                rotate_left
                · intro w' hSw; (go_simp <;> (with_reducible rfl))
                try simp only [Act.put, putL]
                refine tk 1 ?_ rfl ?_ ?_
                rotate_left
                · intro w' hSw; (go_simp <;> (with_reducible rfl))
                try simp only [Act.put, putL]
                refine tk 2 ?_ rfl ?_ ?_
                rotate_left
                · intro w' hSw; (go_simp <;> (with_reducible rfl))
                try simp only [Act.put, putL]
                refine tk 3 ?_ rfl ?_ ?_
                rotate_left
                · intro w' hSw; (go_simp <;> (with_reducible rfl))
                try simp only [Act.put, putL]
                refine tk 4 ?_ rfl ?_ ?_
                rotate_left
                · intro w' hSw; (go_simp <;> (with_reducible rfl))
                try simp only [Act.put, putL]
                refine tk 5 ?_ rfl ?_ ?_
                rotate_left
                · intro w' hSw; (go_simp <;> (with_reducible rfl))
                try simp only [Act.put, putL]
                refine tk 6 ?_ rfl ?_ ?_
                rotate_left
                · intro w' hSw; (go_simp <;> (with_reducible rfl))
                try simp only [Act.put, putL]
                refine tk 7 ?_ rfl ?_ ?_
                rotate_left
                · intro w' hSw; (go_simp <;> (with_reducible rfl))
                try simp only [Act.put, putL]
                refine tk 8 ?_ rfl ?_ ?_
                rotate_left
                · intro w' hSw; (go_simp <;> (with_reducible rfl))
                try simp only [Act.put, putL]
                refine tk 9 ?_ rfl ?_ ?_
                rotate_left
                · intro w' hSw; (go_simp <;> (with_reducible rfl))
                try simp only [Act.put, putL]
                refine tk 10 ?_ rfl ?_ ?_
                rotate_left
                · intro w' hSw; (go_simp <;> (with_reducible rfl))
                try simp only [Act.put, putL]
                refine tk 11 ?_ rfl ?_ ?_
                rotate_left
                · intro w' hSw; (go_simp <;> (with_reducible rfl))
                try simp only [Act.put, putL]
                refine tk 12 ?_ rfl ?_ ?_
                rotate_left
                · intro w' hSw; (go_simp <;> (with_reducible rfl))
                try simp only [Act.put, putL]
                refine tk 13 ?_ rfl ?_ ?_
                rotate_left
                · intro w' hSw; (go_simp <;> (with_reducible rfl))
                try simp only [Act.put, putL]
                refine tk 14 ?_ rfl ?_ ?_
                rotate_left
                · intro w' hSw; (go_simp <;> (with_reducible rfl))
                try simp only [Act.put, putL]
                refine tk 15 ?_ rfl ?_ ?_
                rotate_left
                · intro w' hSw; (go_simp <;> (with_reducible rfl))
                try simp only [Act.put, putL]
                refine tk 16 ?_ rfl ?_ ?_
                rotate_left
                · intro w' hSw; (go_simp <;> (with_reducible rfl))
                try simp only [Act.put, putL]
                refine tk 17 ?_ rfl ?_ ?_
                rotate_left
                · intro w' hSw; (go_simp <;> (with_reducible rfl))
                try simp only [Act.put, putL]
                refine tk 18 ?_ rfl ?_ ?_
                rotate_left
                · intro w' hSw; (go_simp <;> (with_reducible rfl))
                try simp only [Act.put, putL]
                refine tk 19 ?_ rfl ?_ ?_
                rotate_left
                · intro w' hSw; (go_simp <;> (with_reducible rfl))
                try simp only [Act.put, putL]
                refine tk 20 ?_ rfl ?_ ?_
                rotate_left
                · intro w' hSw; (go_simp <;> (with_reducible rfl))
                try simp only [Act.put, putL]
                refine tk 21 ?_ rfl ?_ ?_
                rotate_left
                · intro w' hSw; (go_simp <;> (with_reducible rfl))
                try simp only [Act.put, putL]
                refine tk 22 ?_ rfl ?_ ?_
                rotate_left
                · intro w' hSw; (go_simp <;> (with_reducible rfl))
                try simp only [Act.put, putL]
                refine tk 23 ?_ rfl ?_ ?_
                rotate_left
                · intro w' hSw; (go_simp <;> (with_reducible rfl))
                try simp only [Act.put, putL]
                refine tk 24 ?_ rfl ?_ ?_
                rotate_left
                · intro w' hSw; (go_simp <;> (with_reducible rfl))
                try simp only [Act.put, putL]
                refine tk 25 ?_ rfl ?_ ?_
                rotate_left
                · intro w' hSw; (go_simp <;> (with_reducible rfl))
                try simp only [Act.put, putL]
                refine tk 26 ?_ rfl ?_ ?_
                rotate_left
                · intro w' hSw; (go_simp <;> (with_reducible rfl))
                try simp only [Act.put, putL]
                refine tk 27 ?_ rfl ?_ ?_
                rotate_left
                · intro w' hSw; (go_simp <;> (with_reducible rfl))
                try simp only [Act.put, putL]
                refine tk 28 ?_ rfl ?_ ?_
                rotate_left
                · intro w' hSw; (go_simp <;> (with_reducible rfl))
                try simp only [Act.put, putL]
                refine tk 29 ?_ rfl ?_ ?_
                rotate_left
                · intro w' hSw; (go_simp <;> (with_reducible rfl))
                try simp only [Act.put, putL]
                refine tk 30 ?_ rfl ?_ ?_
                rotate_left
                · intro w' hSw; (go_simp <;> (with_reducible rfl))
                try simp only [Act.put, putL]
                refine tk 31 ?_ rfl ?_ ?_
                rotate_left
                · intro w' hSw; (go_simp <;> (with_reducible rfl))
                try simp only [Act.put, putL]
                refine tk 32 ?_ rfl ?_ ?_
                rotate_left
                · intro w' hSw; (go_simp <;> (with_reducible rfl))
                try simp only [Act.put, putL]
                refine tk 33 ?_ rfl ?_ ?_
                rotate_left
                · intro w' hSw; (go_simp <;> (with_reducible rfl))
                try simp only [Act.put, putL]
                refine wpAnyH_done (by kernel_rfl) ?_ _
                clear hHeld
                obtain ⟨wv, ewv⟩ : ∃ v, wr.drew = v := ⟨_, rfl⟩
                have hTv : SdX wq T g A c first W a s (k + t) y u Ap t cp ((restX s k).take t) wv := by rw [← ewv]; exact HD.out.drewN 1
                rw [ewv]
                clear ewv q1 q2 q3 u9 u8
                obtain ⟨A3, c3, w7, hrun, hS7⟩ := SrX.more H.out.lt Hwq.out HPq.out Hk2.out.2.2.2.2.1 (by have := Hk2.out; omega) hTv
                have k0 : wv.cell? ⟨y, 0, none⟩ = some (.int .u32 u) := by rw [blk_cell hTv.bp]; rfl
                have k1 : wv.cell? ⟨y, 1, none⟩ = some (.slice Ap t cp) := by rw [blk_cell hTv.bp]; rfl
                have Hrun := Lib.hid hrun
                have HS7 := Lib.hid hS7
                clear hTv hrun hS7
                go_wp2_with (at_builtin; refine wpList_appX rfl (.tmp 100) (.tmp 102) _ _ rfl rfl _ _ _ w7 rfl rfl Hrun.out ?_)
                clear k0 k1
                go_roundg (lim - (k + t))
                case measure => exact Hk2.out.2.2.2.2.2.1
                case rel => exact ⟨k + t, m + 1, A3, c3, _, Lib.hid rfl, Lib.hid ⟨Hk2.out.1, Hk2.out.2.1, Hk2.out.2.2.1, by rw [List.length_append, Hk2.out.2.2.2.2.1]; rfl⟩, Lib.hid (Htd2.out Ap cp), rfl, HS7⟩
              · have q2 : ((M1 : Int) < (n : Int)) = False := eq_false (by omega)
                have q3 : True := trivial
                clear htt hm1 hm2 hl1 hl2 hl3 hl4 hl5 hl6 hl7 hl8 j1 j2 j3 j4 j5 j6 eM1 eK1 htl htm hKl hMn
                go_wp2_with fail
                refine wp_region_held_drew (S := fun w' => w'.cell? ⟨y, 1, none⟩ = some (.slice Ap t cp) ∧ w'.cell? ⟨g, 3, none⟩ = some (.int .i64 (M1 : Int)) ∧ w'.cell? ⟨g, 0, none⟩ = some (.slice A n c) ∧ w'.cell? ⟨g, 2, none⟩ = some (.int .i64 (a : Int)) ∧ w'.cell? ⟨g, 4, none⟩ = some (.int .u32 wn)) (by kernel_rfl) (by exact HC6.out) (fun hHeld => ?_)
                refine tk 0 ?_ rfl ?_ ?_
                rotate_left
                · intro w' hSw; (go_simp <;> (with_reducible rfl))
                try simp only [Act.put, putL]
                refine tk 1 ?_ rfl ?_ ?_
                rotate_left
                · intro w' hSw; (go_simp <;> (with_reducible rfl))
                try simp only [Act.put, putL]
                refine tk 2 ?_ rfl ?_ ?_
                rotate_left
                · intro w' hSw; (go_simp <;> (with_reducible rfl))
                try simp only [Act.put, putL]
                refine tk 3 ?_ rfl ?_ ?_
                rotate_left
                · intro w' hSw; (go_simp <;> (with_reducible rfl))
                try simp only [Act.put, putL]
                refine tk 4 ?_ rfl ?_ ?_
                rotate_left
                · intro w' hSw; (go_simp <;> (with_reducible rfl))
                try simp only [Act.put, putL]
                refine tk 5 ?_ rfl ?_ ?_
                rotate_left
                · intro w' hSw; (go_simp <;> (with_reducible rfl))
                try simp only [Act.put, putL]
                refine tk 6 ?_ rfl ?_ ?_
                rotate_left
                · intro w' hSw; (go_simp <;> (with_reducible rfl))
                try simp only [Act.put, putL]
                refine tk 7 ?_ rfl ?_ ?_
                rotate_left
                · intro w' hSw; (go_simp <;> (with_reducible rfl))
                try simp only [Act.put, putL]
                refine tk 8 ?_ rfl ?_ ?_
                rotate_left
                · intro w' hSw; (go_simp <;> (with_reducible rfl))
                try simp only [Act.put, putL]
                refine tk 9 ?_ rfl ?_ ?_
                rotate_left
                · intro w' hSw; (go_simp <;> (with_reducible rfl))
                try simp only [Act.put, putL]
                refine tk 10 ?_ rfl ?_ ?_
                rotate_left
                · intro w' hSw; (go_simp <;> (with_reducible rfl))
                try simp only [Act.put, putL]
                refine tk 11 ?_ rfl ?_ ?_
                rotate_left
                · intro w' hSw; (go_simp <;> (with_reducible rfl))
                try simp only [Act.put, putL]
                refine tk 12 ?_ rfl ?_ ?_
                rotate_left
                · intro w' hSw; (go_simp <;> (with_reducible rfl))
                try simp only [Act.put, putL]
                refine tk 13 ?_ rfl ?_ ?_
                rotate_left
                · intro w' hSw; (go_simp <;> (with_reducible rfl))
                try simp only [Act.put, putL]
                refine tk 14 ?_ rfl ?_ ?_
                rotate_left
                · intro w' hSw; (go_simp <;> (with_reducible rfl))
                try simp only [Act.put, putL]
                refine tk 15 ?_ rfl ?_ ?_
                rotate_left
                · intro w' hSw; (go_simp <;> (with_reducible rfl))
                try simp only [Act.put, putL]
                refine tk 16 ?_ rfl ?_ ?_
                rotate_left
                · intro w' hSw; (go_simp <;> (with_reducible rfl))
                try simp only [Act.put, putL]
                refine tk 17 ?_ rfl ?_ ?_
                rotate_left
                · intro w' hSw; (go_simp <;> (with_reducible rfl))
                try simp only [Act.put, putL]
                refine tkN 18 rfl ?_
                try simp only [Act.put, putL]
                refine tkN 19 rfl ?_
                try simp only [Act.put, putL]
                refine tkN 20 rfl ?_
                try simp only [Act.put, putL]
                refine tkN 21 rfl ?_
                try simp only [Act.put, putL]
                refine tkN 22 rfl ?_
                try simp only [Act.put, putL]
                refine tkN 23 rfl ?_
                try simp only [Act.put, putL]
                refine tkN 24 rfl ?_
                try simp only [Act.put, putL]
                refine tkN 25 rfl ?_
                try simp only [Act.put, putL]
                refine tkN 26 rfl ?_
                try simp only [Act.put, putL]
                refine tkN 27 rfl ?_
                try simp only [Act.put, putL]
                refine tkN 28 rfl ?_
                try simp only [Act.put, putL]
                refine tkN 29 rfl ?_
                try simp only [Act.put, putL]
                refine tkN 30 rfl ?_
                try simp only [Act.put, putL]
                refine tkN 31 rfl ?_
                try simp only [Act.put, putL]
                refine tkN 32 rfl ?_
                try simp only [Act.put, putL]
                refine tk 33 ?_ rfl ?_ ?_
                rotate_left
                · intro w' hSw; (go_simp <;> (with_reducible rfl))
                try simp only [Act.put, putL]
                refine wpAnyH_done (by kernel_rfl) ?_ _
                clear hHeld
                obtain ⟨wv, ewv⟩ : ∃ v, wr.drew = v := ⟨_, rfl⟩
                have hTv : SdX wq T g A c first W a s (k + t) y u Ap t cp ((restX s k).take t) wv := by rw [← ewv]; exact HD.out.drewN 1
                rw [ewv]
                clear ewv q1 q2 q3 u9 u8
                obtain ⟨A3, c3, w7, hrun, hS7⟩ := SrX.more H.out.lt Hwq.out HPq.out Hk2.out.2.2.2.2.1 (by have := Hk2.out; omega) hTv
                have k0 : wv.cell? ⟨y, 0, none⟩ = some (.int .u32 u) := by rw [blk_cell hTv.bp]; rfl
                have k1 : wv.cell? ⟨y, 1, none⟩ = some (.slice Ap t cp) := by rw [blk_cell hTv.bp]; rfl
                have Hrun := Lib.hid hrun
                have HS7 := Lib.hid hS7
                clear hTv hrun hS7
                go_wp2_with (at_builtin; refine wpList_appX rfl (.tmp 100) (.tmp 102) _ _ rfl rfl _ _ _ w7 rfl rfl Hrun.out ?_)
                clear k0 k1
                go_roundg (lim - (k + t))
                case measure => exact Hk2.out.2.2.2.2.2.1
                case rel => exact ⟨k + t, m + 1, A3, c3, _, Lib.hid rfl, Lib.hid ⟨Hk2.out.1, Hk2.out.2.1, Hk2.out.2.2.1, by rw [List.length_append, Hk2.out.2.2.2.2.1]; rfl⟩, Lib.hid (Htd2.out Ap cp), rfl, HS7⟩
            · have q1 : ((t : Int) < mss) = False := eq_false htm
              have q2 : True := trivial
              have q3 : True := trivial
              clear htt hm1 hm2 hl1 hl2 hl3 hl4 hl5 hl6 hl7 hl8 j1 j2 j3 j4 j5 j6 eM1 eK1 htl htm
              go_wp2_with fail
              refine wp_region_held_drew (S := fun w' => w'.cell? ⟨y, 1, none⟩ = some (.slice Ap t cp) ∧ w'.cell? ⟨g, 3, none⟩ = some (.int .i64 (M1 : Int)) ∧ w'.cell? ⟨g, 0, none⟩ = some (.slice A n c) ∧ w'.cell? ⟨g, 2, none⟩ = some (.int .i64 (a : Int)) ∧ w'.cell? ⟨g, 4, none⟩ = some (.int .u32 wn)) (by kernel_rfl) (by exact HC6.out) (fun hHeld => ?_)
              refine tk 0 ?_ rfl ?_ ?_
              rotate_left
              · intro w' hSw; (go_simp <;> (with_reducible rfl))
              try simp only [Act.put, putL]
              refine tk 1 ?_ rfl ?_ ?_
              rotate_left
              · intro w' hSw; (go_simp <;> (with_reducible rfl))
              try simp only [Act.put, putL]
              refine tk 2 ?_ rfl ?_ ?_
              rotate_left
              · intro w' hSw; (go_simp <;> (with_reducible rfl))
              try simp only [Act.put, putL]
              refine tk 3 ?_ rfl ?_ ?_
              rotate_left
              · intro w' hSw; (go_simp <;> (with_reducible rfl))
              try simp only [Act.put, putL]
              refine tk 4 ?_ rfl ?_ ?_
              rotate_left
              · intro w' hSw; (go_simp <;> (with_reducible rfl))
              try simp only [Act.put, putL]
              refine tk 5 ?_ rfl ?_ ?_
              rotate_left
              · intro w' hSw; (go_simp <;> (with_reducible rfl))
              try simp only [Act.put, putL]
              refine tkN 6 rfl ?_
              try simp only [Act.put, putL]
              refine tkN 7 rfl ?_
              try simp only [Act.put, putL]
              refine tkN 8 rfl ?_
              try simp only [Act.put, putL]
              refine tkN 9 rfl ?_
              try simp only [Act.put, putL]
              refine tkN 10 rfl ?_
              try simp only [Act.put, putL]
              refine tkN 11 rfl ?_
              try simp only [Act.put, putL]
              refine tkN 12 rfl ?_
              try simp only [Act.put, putL]
              refine tkN 13 rfl ?_
              try simp only [Act.put, putL]
              refine tkN 14 rfl ?_
              try simp only [Act.put, putL]
              refine tkN 15 rfl ?_
              try simp only [Act.put, putL]
              refine tk 16 ?_ rfl ?_ ?_
              rotate_left
              · intro w' hSw; (go_simp <;> (with_reducible rfl))
              try simp only [Act.put, putL]
              refine tk 17 ?_ rfl ?_ ?_
              rotate_left
              · intro w' hSw; (go_simp <;> (with_reducible rfl))
              try simp only [Act.put, putL]
              refine tkN 18 rfl ?_
              try simp only [Act.put, putL]
              refine tkN 19 rfl ?_
              try simp only [Act.put, putL]
              refine tkN 20 rfl ?_
              try simp only [Act.put, putL]
              refine tkN 21 rfl ?_
              try simp only [Act.put, putL]
              refine tkN 22 rfl ?_
              try simp only [Act.put, putL]
              refine tkN 23 rfl ?_
              try simp only [Act.put, putL]
              refine tkN 24 rfl ?_
              try simp only [Act.put, putL]
              refine tkN 25 rfl ?_
              try simp only [Act.put, putL]
              refine tkN 26 rfl ?_
              try simp only [Act.put, putL]
              refine tkN 27 rfl ?_
              try simp only [Act.put, putL]
              refine tkN 28 rfl ?_
              try simp only [Act.put, putL]
              refine tkN 29 rfl ?_
              try simp only [Act.put, putL]
              refine tkN 30 rfl ?_
              try simp only [Act.put, putL]
              refine tkN 31 rfl ?_
              try simp only [Act.put, putL]
              refine tkN 32 rfl ?_
              try simp only [Act.put, putL]
              refine tk 33 ?_ rfl ?_ ?_
              rotate_left
              · intro w' hSw; (go_simp <;> (with_reducible rfl))
              try simp only [Act.put, putL]
              refine wpAnyH_done (by kernel_rfl) ?_ _
              clear hHeld
              obtain ⟨wv, ewv⟩ : ∃ v, wr.drew = v := ⟨_, rfl⟩
              have hTv : SdX wq T g A c first W a s (k + t) y u Ap t cp ((restX s k).take t) wv := by rw [← ewv]; exact HD.out.drewN 1
              rw [ewv]
              clear ewv q1 q2 q3 u9 u8
              obtain ⟨A3, c3, w7, hrun, hS7⟩ := SrX.more H.out.lt Hwq.out HPq.out Hk2.out.2.2.2.2.1 (by have := Hk2.out; omega) hTv
              have k0 : wv.cell? ⟨y, 0, none⟩ = some (.int .u32 u) := by rw [blk_cell hTv.bp]; rfl
              have k1 : wv.cell? ⟨y, 1, none⟩ = some (.slice Ap t cp) := by rw [blk_cell hTv.bp]; rfl
              have Hrun := Lib.hid hrun
              have HS7 := Lib.hid hS7
              clear hTv hrun hS7
              go_wp2_with (at_builtin; refine wpList_appX rfl (.tmp 100) (.tmp 102) _ _ rfl rfl _ _ _ w7 rfl rfl Hrun.out ?_)
              clear k0 k1
              go_roundg (lim - (k + t))
              case measure => exact Hk2.out.2.2.2.2.2.1
              case rel => exact ⟨k + t, m + 1, A3, c3, _, Lib.hid rfl, Lib.hid ⟨Hk2.out.1, Hk2.out.2.1, Hk2.out.2.2.1, by rw [List.length_append, Hk2.out.2.2.2.2.1]; rfl⟩, Lib.hid (Htd2.out Ap cp), rfl, HS7⟩
      · have hkl := Lib.hid hkl
        by_cases hMn : M < n
        · have q1 : (M : Int) < (n : Int) := by omega
          have q2 : ((k : Int) < wn) = False := eq_false (by have := hkl.out; omega)
          clear hm1 hm2 hl1 hl2 hl3 hl4 hl5 hl6 hl7 hl8 hks eM hMn
          go_wp2_with fail
          refine wp_region_held_drew (S := fun w' => w'.cell? ⟨g, 3, none⟩ = some (.int .i64 (M : Int)) ∧ w'.cell? ⟨g, 0, none⟩ = some (.slice A n c) ∧ w'.cell? ⟨g, 2, none⟩ = some (.int .i64 (a : Int)) ∧ w'.cell? ⟨g, 4, none⟩ = some (.int .u32 wn)) (by kernel_rfl) (by exact HC4.out) (fun hHeld => ?_)
          refine tk 0 ?_ rfl ?_ ?_
          rotate_left
          · intro w' hSw; (go_simp <;> (with_reducible rfl))
          try simp only [Act.put, putL]
          refine tk 1 ?_ rfl ?_ ?_
          rotate_left
          · intro w' hSw; (go_simp <;> (with_reducible rfl))
          try simp only [Act.put, putL]
          refine tk 2 ?_ rfl ?_ ?_
          rotate_left
          · intro w' hSw; (go_simp <;> (with_reducible rfl))
          try simp only [Act.put, putL]
          refine tk 3 ?_ rfl ?_ ?_
          rotate_left
          · intro w' hSw; (go_simp <;> (with_reducible rfl))
          try simp only [Act.put, putL]
          refine tk 4 ?_ rfl ?_ ?_
          rotate_left
          · intro w' hSw; (go_simp <;> (with_reducible rfl))
          try simp only [Act.put, putL]
          refine tk 5 ?_ rfl ?_ ?_
          rotate_left
          · intro w' hSw; (go_simp <;> (with_reducible rfl))
          try simp only [Act.put, putL]
          refine tk 6 ?_ rfl ?_ ?_
          rotate_left
          · intro w' hSw; (go_simp <;> (with_reducible rfl))
          try simp only [Act.put, putL]
          refine tk 7 ?_ rfl ?_ ?_
          rotate_left
          · intro w' hSw; (go_simp <;> (with_reducible rfl))
          try simp only [Act.put, putL]
          refine tk 8 ?_ rfl ?_ ?_
          rotate_left
          · intro w' hSw; (go_simp <;> (with_reducible rfl))
          try simp only [Act.put, putL]
          refine tk 9 ?_ rfl ?_ ?_
          rotate_left
          · intro w' hSw; (go_simp <;> (with_reducible rfl))
          try simp only [Act.put, putL]
          refine tk 10 ?_ rfl ?_ ?_
          rotate_left
          · intro w' hSw; (go_simp <;> (with_reducible rfl))
          try simp only [Act.put, putL]
          refine tk 11 ?_ rfl ?_ ?_
          rotate_left
          · intro w' hSw; (go_simp <;> (with_reducible rfl))
          try simp only [Act.put, putL]
          refine tk 12 ?_ rfl ?_ ?_
          rotate_left
          · intro w' hSw; (go_simp <;> (with_reducible rfl))
          try simp only [Act.put, putL]
          refine tk 13 ?_ rfl ?_ ?_
          rotate_left
          · intro w' hSw; (go_simp <;> (with_reducible rfl))
          try simp only [Act.put, putL]
          refine tk 14 ?_ rfl ?_ ?_
          rotate_left
          · intro w' hSw; (go_simp <;> (with_reducible rfl))
          try simp only [Act.put, putL]
          refine tk 15 ?_ rfl ?_ ?_
          rotate_left
          · intro w' hSw; (go_simp <;> (with_reducible rfl))
          try simp only [Act.put, putL]
          refine tk 16 ?_ rfl ?_ ?_
          rotate_left
          · intro w' hSw; (go_simp <;> (with_reducible rfl))
          try simp only [Act.put, putL]
          refine tk 17 ?_ rfl ?_ ?_
          rotate_left
          · intro w' hSw; (go_simp <;> (with_reducible rfl))
          try simp only [Act.put, putL]
          refine tk 18 ?_ rfl ?_ ?_
          rotate_left
          · intro w' hSw; (go_simp <;> (with_reducible rfl))
          try simp only [Act.put, putL]
          refine tk 19 ?_ rfl ?_ ?_
          rotate_left
          · intro w' hSw; (go_simp <;> (with_reducible rfl))
          try simp only [Act.put, putL]
          refine tk 20 ?_ rfl ?_ ?_
          rotate_left
          · intro w' hSw; (go_simp <;> (with_reducible rfl))
          try simp only [Act.put, putL]
          refine tk 21 ?_ rfl ?_ ?_
          rotate_left
          · intro w' hSw; (go_simp <;> (with_reducible rfl))
          try simp only [Act.put, putL]
          refine tk 22 ?_ rfl ?_ ?_
          rotate_left
          · intro w' hSw; (go_simp <;> (with_reducible rfl))
          try simp only [Act.put, putL]
          refine tk 23 ?_ rfl ?_ ?_
          rotate_left
          · intro w' hSw; (go_simp <;> (with_reducible rfl))
          try simp only [Act.put, putL]
          refine tk 24 ?_ rfl ?_ ?_
          rotate_left
          · intro w' hSw; (go_simp <;> (with_reducible rfl))
          try simp only [Act.put, putL]
          refine tk 25 ?_ rfl ?_ ?_
          rotate_left
          · intro w' hSw; (go_simp <;> (with_reducible rfl))
          try simp only [Act.put, putL]
          refine tk 26 ?_ rfl ?_ ?_
          rotate_left
          · intro w' hSw; (go_simp <;> (with_reducible rfl))
          try simp only [Act.put, putL]
          refine wpAnyH_done (by kernel_rfl) ?_ _
          clear hHeld
          have HF := Lib.hid (show RSendX T g first W.length (sendS mss s) (sendL mss s) (sendE mss) w (.returned (.tuple #[.slice A2 m c2, .int .i64 0])) wr.drew from by
            obtain ⟨hb, hm1, hm2, hl1, hl2, hl3, hl4⟩ := Hnum.out
            obtain ⟨k1, k2, k3, k4⟩ := hk.out
            have e1 : sendS mss s = { s with sent := k } := sendS_told mss s hb k k1 (by rw [hl3]; exact k2) (by rw [hl3]; exact hkl.out)
            have e2 : sendL mss s = qs.map toldQ := by rw [← htd.out, toldX_none _ _ _ (by rw [hl3]; exact hkl.out), List.append_nil]
            have e3 : sendE mss = 0 := by unfold sendE; rw [if_neg hb]
            rw [e1, e2, e3]
            have hS := HS.out
            exact ⟨_, qs, rfl, hS.pcs.on ((Below.refl _ _).drew), rfl, A, c, W, a, hS.ref.drewN 1, hS.all.drew, Nat.le_refl _⟩)
          clear hk htd hkl u7 u8 q1 q2
          go_wp2_with fail
          go_ret2
          exact HF.out
        · have q1 : ((M : Int) < (n : Int)) = False := eq_false (by omega)
          have q2 : True := trivial
          clear hm1 hm2 hl1 hl2 hl3 hl4 hl5 hl6 hl7 hl8 hks eM hMn
          go_wp2_with fail
          refine wp_region_held_drew (S := fun w' => w'.cell? ⟨g, 3, none⟩ = some (.int .i64 (M : Int)) ∧ w'.cell? ⟨g, 0, none⟩ = some (.slice A n c) ∧ w'.cell? ⟨g, 2, none⟩ = some (.int .i64 (a : Int)) ∧ w'.cell? ⟨g, 4, none⟩ = some (.int .u32 wn)) (by kernel_rfl) (by exact HC4.out) (fun hHeld => ?_)
          refine tk 0 ?_ rfl ?_ ?_
          rotate_left
          · intro w' hSw; (go_simp <;> (with_reducible rfl))
          try simp only [Act.put, putL]
          refine tk 1 ?_ rfl ?_ ?_
          rotate_left
          · intro w' hSw; (go_simp <;> (with_reducible rfl))
          try simp only [Act.put, putL]
          refine tk 2 ?_ rfl ?_ ?_
          rotate_left
          · intro w' hSw; (go_simp <;> (with_reducible rfl))
          try simp only [Act.put, putL]
          refine tk 3 ?_ rfl ?_ ?_
          rotate_left
          · intro w' hSw; (go_simp <;> (with_reducible rfl))
          try simp only [Act.put, putL]
          refine tk 4 ?_ rfl ?_ ?_
          rotate_left
          · intro w' hSw; (go_simp <;> (with_reducible rfl))
          try simp only [Act.put, putL]
          refine tk 5 ?_ rfl ?_ ?_
          rotate_left
          · intro w' hSw; (go_simp <;> (with_reducible rfl))
          try simp only [Act.put, putL]
          refine tk 6 ?_ rfl ?_ ?_
          rotate_left
          · intro w' hSw; (go_simp <;> (with_reducible rfl))
          try simp only [Act.put, putL]
          refine tk 7 ?_ rfl ?_ ?_
          rotate_left
          · intro w' hSw; (go_simp <;> (with_reducible rfl))
          try simp only [Act.put, putL]
          refine tk 8 ?_ rfl ?_ ?_
          rotate_left
          · intro w' hSw; (go_simp <;> (with_reducible rfl))
          try simp only [Act.put, putL]
          refine tk 9 ?_ rfl ?_ ?_
          rotate_left
          · intro w' hSw; (go_simp <;> (with_reducible rfl))
          try simp only [Act.put, putL]
          refine tk 10 ?_ rfl ?_ ?_
          rotate_left
          · intro w' hSw; (go_simp <;> (with_reducible rfl))
          try simp only [Act.put, putL]
          refine tkN 11 rfl ?_
          try simp only [Act.put, putL]
          refine tkN 12 rfl ?_
          try simp only [Act.put, putL]
          refine tkN 13 rfl ?_
          try simp only [Act.put, putL]
          refine tkN 14 rfl ?_
          try simp only [Act.put, putL]
          refine tkN 15 rfl ?_
          try simp only [Act.put, putL]
          refine tkN 16 rfl ?_
          try simp only [Act.put, putL]
          refine tkN 17 rfl ?_
          try simp only [Act.put, putL]
          refine tkN 18 rfl ?_
          try simp only [Act.put, putL]
          refine tkN 19 rfl ?_
          try simp only [Act.put, putL]
          refine tkN 20 rfl ?_
          try simp only [Act.put, putL]
          refine tkN 21 rfl ?_
          try simp only [Act.put, putL]
          refine tkN 22 rfl ?_
          try simp only [Act.put, putL]
          refine tkN 23 rfl ?_
          try simp only [Act.put, putL]
          refine tkN 24 rfl ?_
          try simp only [Act.put, putL]
          refine tkN 25 rfl ?_
          try simp only [Act.put, putL]
          refine tk 26 ?_ rfl ?_ ?_
          rotate_left
          · intro w' hSw; (go_simp <;> (with_reducible rfl))
          try simp only [Act.put, putL]
          refine wpAnyH_done (by kernel_rfl) ?_ _
          clear hHeld
          have HF := Lib.hid (show RSendX T g first W.length (sendS mss s) (sendL mss s) (sendE mss) w (.returned (.tuple #[.slice A2 m c2, .int .i64 0])) wr.drew from by
            obtain ⟨hb, hm1, hm2, hl1, hl2, hl3, hl4⟩ := Hnum.out
            obtain ⟨k1, k2, k3, k4⟩ := hk.out
            have e1 : sendS mss s = { s with sent := k } := sendS_told mss s hb k k1 (by rw [hl3]; exact k2) (by rw [hl3]; exact hkl.out)
            have e2 : sendL mss s = qs.map toldQ := by rw [← htd.out, toldX_none _ _ _ (by rw [hl3]; exact hkl.out), List.append_nil]
            have e3 : sendE mss = 0 := by unfold sendE; rw [if_neg hb]
            rw [e1, e2, e3]
            have hS := HS.out
            exact ⟨_, qs, rfl, hS.pcs.on ((Below.refl _ _).drew), rfl, A, c, W, a, hS.ref.drewN 1, hS.all.drew, Nat.le_refl _⟩)
          clear hk htd hkl u7 u8 q1 q2
          go_wp2_with fail
          go_ret2
          exact HF.out
end Go.Proofs.Ytncbkgcblmohoaa
