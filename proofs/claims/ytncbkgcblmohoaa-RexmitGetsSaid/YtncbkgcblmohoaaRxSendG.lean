/-
  A buffer of the program's: Send.
-/
import Derived.Test.YtncbkgcblmohoaaRxCutP
namespace Go.Proofs.Ytncbkgcblmohoaa
set_option maxRecDepth 10000
open Go.RowKit
set_option linter.unusedSimpArgs false
set_option linter.unusedVariables false

theorem info_piece : (Try.prog.info? 54).map (fun i => (i.zero, i.size, i.bytes)) = some (some (.agg #[.int .u32 0, .slice none 0 0]), 2, 32) := by kernel_rfl
/-- What goes on in Send: the buffer with k bytes sent, the closure's boxes, the pieces so far. -/
structure SnX (w : World) (S : Nat → Prop) (g : Nat) (A : Option Addr) (c : Nat) (s : XS) (wt ct al : Int) (k p q r : Nat) (mi : Int) (lim : Nat) (v : Value) (qs : List PQ) (wr : World) : Prop where
  mem : XMem wr S g A c { s with sent := k } wt ct al
  cut : CutB wr p q r g mi lim
  pcs : PcsX wr 54 w.heap.size v qs
  all : But (fun j => j = g) w wr
  new : w.heap.size ≤ p ∧ w.heap.size ≤ q ∧ w.heap.size ≤ r
  old : ∀ j, S j → j < w.heap.size
theorem SnX.more {w wr w1 : World} {S : Nat → Prop} {g : Nat} {A : Option Addr} {c : Nat} {s : XS} {wt ct al : Int} {k k2 p q r : Nat} {mi : Int} {lim : Nat} {A2 : Option Addr} {m c2 : Nat} {qs : List PQ} (h : SnX w S g A c s wt ct al k p q r mi lim (.slice A2 m c2) qs wr) (hm : qs.length = m) (hml : m ≤ 100000)
    {x : Int} {A' : Option Addr} {n' c' : Nat} {data : List Int} (hdl : data.length = n') (ho : OwnB w1 wr.heap.size A' n' c' data) (hx : XMem w1 S g A c { s with sent := k2 } wt ct al) (hb : But (fun j => j = g) wr w1) :
    ∃ A3 c3 w3, (Builtin.append_ #[41, 41] 41 #[.slice A2 m c2, .slice (some ⟨w1.heap.size, 0, none⟩) 1 1]).run Try.prog (w1.alloc (.cells #[.int .u32 x, .slice A' n' c'] 54)) = .ok (.slice A3 (m + 1) c3) w3 ∧
      SnX w S g A c s wt ct al k2 p q r mi lim (.slice A3 (m + 1) c3) (qs ++ [⟨x, A', c', data⟩]) w3 := by
  subst hdl
  obtain ⟨hmem, hcut, ⟨hsl, hrows, hown⟩, hall, hnew, hold⟩ := h
  have hgl := hold g hmem.sg
  have hsz := hall.size
  have hB12 : But (fun _ => False) w1 (w1.alloc (.cells #[.int .u32 x, .slice A' data.length c'] 54)) := (But.refl _ _).alloc _
  have hsl1 := (hsl.but hb (fun b hb2 e => by have := hown b hb2; omega))
  have hsl2 := hsl1.but hB12 (fun _ _ e => e)
  rw [hm] at hsl2
  obtain ⟨A3, c3, w3, hrun, hs3, hb3, ho3, -⟩ := sv_app (P := Try.prog) (w1.alloc (.cells #[.int .u32 x, .slice A' data.length c'] 54)) 41 41 54 (.agg #[.int .u32 0, .slice none 0 0]) 2 32 Try.underlying41 info_piece (by omega) rfl
    (.slice A2 m c2) (.slice (some ⟨w1.heap.size, 0, none⟩) 1 1) m 1 (flatQ qs) (flatQ [⟨x, A', c', data⟩]) hsl2 (RowV.one 54 (flatQ [⟨x, A', c', data⟩]) w1.heap.size rfl rfl) (by intro u hu; simp [flatQ] at hu; rcases hu with rfl | rfl <;> rfl) (by omega)
  have hown2 : ∀ b, (Value.slice A2 m c2).ownBlock = some b → w.heap.size ≤ b := hown
  have hs12 : (w1.alloc (.cells #[.int .u32 x, .slice A' data.length c'] 54)).heap.size = w1.heap.size + 1 := by simp
  have hwr1 := hb.size
  have hx2 := hx.but hB12 (fun _ _ e => e)
  have hcp := cells_not hcut.bp hmem.box (by decide)
  have hcq := cells_not hcut.bq hmem.box (by decide)
  have hcr := cells_not hcut.br hmem.box (by decide)
  have hcut2 := (hcut.but hb hcp hcq hcr).but hB12 (fun e => e) (fun e => e) (fun e => e)
  have rowOk : ∀ q ∈ qs ++ [⟨x, A', c', data⟩], OwnB w3 w.heap.size q.A q.data.length q.c q.data := by
    intro q hq
    have h2 : OwnB (w1.alloc (.cells #[.int .u32 x, .slice A' data.length c'] 54)) w.heap.size q.A q.data.length q.c q.data := by
      rcases List.mem_append.1 hq with h5 | h5
      · exact ((hrows q h5).but hb (fun j hj e => by omega)).but hB12 (fun _ _ e => e)
      · rw [List.mem_singleton] at h5
        subst h5
        exact (ho.mono (by omega)).but hB12 (fun _ _ e => e)
    refine own_but h2 hb3 (fun b hb5 e => ?_)
    rcases hsl2 with ⟨e2, _⟩ | ⟨g2, o2, c5, e2, C, hC, _⟩
    · rw [e2] at e; cases e
    · rw [e2] at e
      have e : g2 = b := by simpa [Value.ownBlock] using e
      subst e
      exact own_notc h2 hC (by decide) hb5
  refine ⟨A3, c3, w3, hrun, ⟨hx2.but hb3 (fun j hj e => by have := hold j hj; have := hown2 j e; omega), hcut2.but hb3 (slv_ne hsl2 hcut2.bp (by decide)) (slv_ne hsl2 hcut2.bq (by decide)) (slv_ne hsl2 hcut2.br (by decide)), ⟨?_, rowOk, fun b hb5 => ?_⟩, ?_, hnew, hold⟩⟩
  · rw [List.length_append, hm, flatQ_app]
    exact hs3
  · rcases ho3 with e | e
    · exact hown2 b (by rw [← e]; exact hb5)
    · rw [e] at hb5
      injection hb5 with hb5
      omega
  · exact (((hall.trans hb).trans (hB12.mono (fun _ _ e => e.elim)))).trans2 hb3 (fun j hj e => by have := hown2 j e; omega)
theorem cut_rest (s : XS) (k t : Nat) (h : k + t ≤ limX s) : (s.bs.take (k + t)).drop k = (restX s k).take t := by
  unfold restX
  rw [List.drop_take, List.drop_take, List.take_take]
  congr 1
  omega
set_option maxHeartbeats 2000000 in
theorem send_mem {w : World} {S : Nat → Prop} {g c : Nat} {A : Option Addr} {s : XS} {wt ct al : Int} (h : XMem w S g A c s wt ct al) (mss : Int) :
    Calls Try.prog 15 #[.pointer (some ⟨g, 0, none⟩), .int .i64 mss] w (XSends XmAt S g (sendS mss s) (sendL mss s) (sendE mss) w) := by
  have Hno := Lib.hid (xnone_no g w h.c0)
  by_cases hbad : badM mss = true
  · have Hmay := Lib.hid (may19_any mss w true hbad)
    have HF := Lib.hid (show XSends XmAt S g (sendS mss s) (sendL mss s) (sendE mss) w (.returned (.tuple #[.slice none 0 0, .int .i64 1])) w from by
      unfold sendS sendL sendE
      rw [if_pos hbad, if_pos hbad, if_pos hbad]
      exact ⟨.slice none 0 0, [], rfl, ⟨.inl ⟨rfl, rfl, rfl⟩, fun q hq => by simp at hq, fun b hb => by cases hb⟩, rfl, S, ⟨A, c, wt, ct, al, h⟩, But.refl _ _, fun j hj => .inl hj, fun b hb => (by cases hb), fun q hq => by simp at hq⟩)
    clear h hbad
    go_enter Try.func15, Try.ntmps15
    go_wp2_with (first | (go_at_call 40; refine Hno.out.mono ?_; rintro e w' ⟨rfl, rfl⟩) | (go_at_call 45; refine Hmay.out.mono ?_; rintro e w' ⟨rfl, rfl⟩))
    go_ret2
    exact HF.out
  · have hb2 : badM mss = false := by simpa using hbad
    have Hmay := Lib.hid (may19_any mss w false hb2)
    have hmm : 1 ≤ mss ∧ mss ≤ 1500 := by
      unfold badM at hb2
      have := of_decide_eq_false hb2
      omega
    obtain ⟨lim, elim⟩ : ∃ n, limX s = n := ⟨_, rfl⟩
    have hlim : lim ≤ s.bs.length := by rw [← elim]; exact lim_le s
    have hlen := h.ok.len
    have Hin := Lib.hid (inwin_any h lim elim)
    have Hcut := Lib.hid (fun W => cutter_any g mss lim W)
    have Hnum := Lib.hid (show (1 ≤ mss ∧ mss ≤ 1500) ∧ lim ≤ s.bs.length ∧ s.bs.length ≤ 16384 ∧ limX s = lim ∧ ¬ badM mss = true from ⟨hmm, hlim, hlen, elim, hbad⟩)
    have H := Lib.hid h
    clear h hbad hb2 hmm elim hlim hlen
    go_enter Try.func15, Try.ntmps15
    go_wp2_with (first | (go_at_call 40; refine Hno.out.mono ?_; rintro e w' ⟨rfl, rfl⟩) | (go_at_call 45; refine Hmay.out.mono ?_; rintro e w' ⟨rfl, rfl⟩))
    refine Hin.out.mono ?_
    rintro e w1 ⟨rfl, n1, ew1⟩
    have Ew1 := Lib.hid ew1
    clear ew1
    go_wp2_with fail
    refine (Hcut.out w1).mono ?_
    rintro e w2 ⟨p, q, r, rfl, hcb, hb2, hp, hq, hr⟩
    unfold cutF
    have hBw : But (fun _ => False) w w2 := by rw [← Ew1.out] at hb2; exact ((But.refl _ _).drewN n1).trans (But.of hb2)
    have hsz1 : w1.heap.size = w.heap.size := by rw [← Ew1.out]; rfl
    have HS0 := Lib.hid (show SnX w S g A c s wt ct al s.sent p q r mss lim (.slice none 0 0) [] w2 from
      ⟨H.out.but hBw (fun _ _ e => e), hcb, ⟨.inl ⟨rfl, rfl, rfl⟩, fun q hq => by simp at hq, fun b hb => by cases hb⟩, hBw.mono (fun _ _ e => e.elim), by omega, H.out.lt⟩)
    clear hcb hb2 hp hq hr hBw hsz1
    go_wp2_with fail
    go_loopg [6] (lim - s.sent) (fun gk x6 wr => ∃ (k m : Nat) (A2 : Option Addr) (c2 : Nat) (qs : List PQ), Hid (gk = lim - k) ∧ Hid (s.sent ≤ k ∧ k ≤ max s.sent lim ∧ m ≤ k ∧ qs.length = m) ∧ Hid (qs.map toldQ ++ toldX mss.toNat s k = sendL mss s) ∧ x6 = .slice A2 m c2 ∧ Hid (SnX w S g A c s wt ct al k p q r mss lim (.slice A2 m c2) qs wr))
    case atStart => exact ⟨s.sent, 0, none, 0, [], Lib.hid rfl, Lib.hid ⟨Nat.le_refl _, by omega, Nat.zero_le _, rfl⟩, Lib.hid (by rw [List.map_nil, List.nil_append]; exact (sendL_told mss s Hnum.out.2.2.2.2).symm), rfl, HS0⟩
    case round =>
      obtain ⟨k, m, A2, c2, qs, hgk, hk, htd, rfl, HS⟩ := hrel
      obtain rfl : gk = lim - k := hgk.out
      have c3 : wr.cell? ⟨g, 3, none⟩ = some (.int .i64 (k : Int)) := HS.out.mem.c3
      clear hgk
      by_cases hkl : k < lim
      · have q1 : (k : Int) < (lim : Int) := by omega
        obtain ⟨⟨hm1, hm2⟩, hl1, hl2, hl3, hl4⟩ := Hnum.out
        obtain ⟨k1, k2, k3, k4⟩ := hk.out
        obtain ⟨t, et⟩ : ∃ t, min mss.toNat (lim - k) = t := ⟨_, rfl⟩
        obtain ⟨K, eK⟩ : ∃ K, k + t = K := ⟨_, rfl⟩
        have ht0 : 0 < t := by omega
        have hcr := cut_rest s k t (by omega)
        have hst := toldX_step mss.toNat s k t (by omega) (by omega) (by rw [hl3]; exact et.symm)
        have Hcl := Lib.hid (cutter1_any HS.out.mem p q r mss k lim K HS.out.cut ⟨hm1, hm2⟩ (by omega) hl1 (by omega) { s with sent := K } (by show ({ s with sent := max k K } : XS) = _; rw [show max k K = K by omega]) (numX (s.una + (k : Int))) rfl ((restX s k).take t) (by rw [← eK]; exact hcr))
        have Htd2 := Lib.hid (show ∀ A' c', (qs ++ [(⟨numX (s.una + (k : Int)), A', c', (restX s k).take t⟩ : PQ)]).map toldQ ++ toldX mss.toNat s K = sendL mss s from fun A' c' => by
          rw [← htd.out, hst, eK, List.map_append, List.append_assoc]
          rfl)
        have Hk2 := Lib.hid (show s.sent ≤ K ∧ K ≤ max s.sent lim ∧ m + 1 ≤ K ∧ qs.length + 1 = m + 1 ∧ lim - K < lim - k ∧ m ≤ 100000 ∧ qs.length = m from ⟨by omega, by omega, by omega, by omega, by omega, by omega, k4⟩)
        clear hm1 hm2 hl1 hl2 hl3 hl4 k1 k2 k3 k4 hcr hst et eK ht0 hk htd
        go_wp2_with fail
        refine Hcl.out.mono ?_
        rintro e w5 ⟨A', n', c', rfl, hdl, ho, hx, hb⟩
        obtain ⟨A3, c3', w6, hrun, hS6⟩ := HS.out.more Hk2.out.2.2.2.2.2.2 Hk2.out.2.2.2.2.2.1 (x := numX (s.una + (k : Int))) hdl ho hx hb
        have Hrun := Lib.hid hrun
        have HS6 := Lib.hid hS6
        clear hdl ho hx hb hrun hS6 c3 q1 hkl
        go_wp2_with (at_builtin; refine wpList_appX rfl (.tmp 26) (.tmp 33) _ _ rfl rfl _ _ _ w6 rfl rfl Hrun.out ?_)
        go_roundg (lim - K)
        case measure => exact Hk2.out.2.2.2.2.1
        case rel => exact ⟨K, m + 1, A3, c3', _, Lib.hid rfl, Lib.hid ⟨Hk2.out.1, Hk2.out.2.1, Hk2.out.2.2.1, by rw [List.length_append]; exact Hk2.out.2.2.2.1⟩, Lib.hid (Htd2.out _ _), rfl, HS6⟩
      · have q1 : ¬ (k : Int) < (lim : Int) := by omega
        have HF := Lib.hid (show XSends XmAt S g (sendS mss s) (sendL mss s) (sendE mss) w (.returned (.tuple #[.slice A2 m c2, .int .i64 0])) wr from by
          obtain ⟨_, hl1, hl2, hl3, hl4⟩ := Hnum.out
          obtain ⟨k1, k2, k3, k4⟩ := hk.out
          have hS := HS.out
          have e1 : sendS mss s = { s with sent := k } := sendS_told mss s hl4 k k1 (by rw [hl3]; exact k2) (by rw [hl3]; exact hkl)
          have e2 : sendL mss s = qs.map toldQ := by rw [← htd.out, toldX_none _ _ _ (by rw [hl3]; exact hkl), List.append_nil]
          have e3 : sendE mss = 0 := by unfold sendE; rw [if_neg hl4]
          rw [e1, e2, e3]
          refine ⟨_, qs, rfl, hS.pcs, rfl, S, ⟨A, c, wt, ct, al, hS.mem⟩, hS.all.mono (fun j _ e => by rw [show j = g from e]; exact hS.mem.sg), fun j hj => .inl hj, fun b hb e => ?_, fun q hq b hb e => ?_⟩
          · have := hS.pcs.own b hb; have := hS.old b e; omega
          · have h6 := hS.old b e
            rcases (hS.pcs.rows q hq).2 with ⟨e5, _⟩ | ⟨g2, cap, cur, e5, hB, _⟩
            · rw [show rowQ q = .slice q.A q.data.length q.c from rfl, e5] at hb; cases hb
            · rw [show rowQ q = .slice q.A q.data.length q.c from rfl, e5] at hb
              injection hb with hb
              subst hb
              have : w.heap.size ≤ g2 := hB
              have h6 : g2 < w.heap.size := h6
              omega)
        clear hk htd hkl
        go_wp2_with fail
        go_ret2
        exact HF.out
end Go.Proofs.Ytncbkgcblmohoaa
