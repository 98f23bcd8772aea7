/-
  A buffer of the program's: lay.
-/
import Derived.Test.YtmmnicnebammhaaRmTell
namespace Go.Proofs.Ytmmnicnebammhaa
set_option maxRecDepth 10000
open Go.RowKit
set_option linter.unusedSimpArgs false
set_option linter.unusedVariables false

theorem set_is (M : BL) (k : Nat) (x : Int) (hk : k < M.length) (i : Nat) : isB (M.set k (some x)) i = true ↔ (i = k ∨ isB M i = true) := by
  unfold isB
  rw [List.getD, List.getD, List.getElem?_set]
  by_cases e : k = i
  · subst e
    rw [if_pos rfl, if_pos hk]
    simp
  · rw [if_neg e]
    constructor
    · intro h; exact .inr h
    · rintro (h | h)
      · exact absurd h.symm e
      · exact h
theorem RMem.put {w : World} {S : Nat → Prop} {g m nx k : Nat} {st x : Int} {M : BL} (h : RMem w S g m nx st M) (hk : k < M.length) (hx : 0 ≤ x ∧ x < 256) :
    ∃ w', (Instr.mapUpdate 57 (.map (some m)) (.int .i64 ((nx + k : Nat) : Int)) (.int .u8 x)).run Try.prog w = .ok () w' ∧ RMem w' S g m nx st (M.set k (some x)) ∧ But (fun b => b = m) w w' := by
  obtain ⟨w', h1, h2, h3⟩ := h.map.put_b ((nx + k : Nat) : Int) (.int .u8 x)
  refine ⟨w', h1, ⟨?_, ?_, h.stb, ?_, ?_, h.sg, h.sm, fun b hb => h3.lt (h.lt b hb)⟩, h3⟩
  · rw [List.length_set]
    exact h3.blk h.box (fun e => h.gm e)
  · refine h2.congr (fun e => ?_) (fun e he => ?_)
    · constructor
      · rintro (rfl | ⟨i, h4, h5⟩)
        · exact ⟨k, (set_is M k x hk k).2 (.inl rfl), rfl⟩
        · exact ⟨i, (set_is M k x hk i).2 (.inr h4), h5⟩
      · rintro ⟨i, h4, h5⟩
        rcases (set_is M k x hk i).1 h4 with rfl | h6
        · exact .inl h5
        · exact .inr ⟨i, h6, h5⟩
    · unfold valR
      by_cases e1 : e = ((nx + k : Nat) : Int)
      · rw [if_pos e1, show (e - (nx : Int)).toNat = k by omega, List.getD, List.getElem?_set_self hk]
        rfl
      · rw [if_neg e1]
        have he : ∃ i : Nat, e = ((nx + i : Nat) : Int) := by
          rcases he with he | ⟨i, _, h5⟩
          · exact absurd he e1
          · exact ⟨i, h5⟩
        obtain ⟨i, rfl⟩ := he
        rw [show (((nx + i : Nat) : Int) - (nx : Int)).toNat = i by omega, List.getD, List.getD, List.getElem?_set_ne (by omega)]
  · rw [List.length_set]; exact h.room
  · intro y hy
    rcases List.mem_or_eq_of_mem_set hy with h4 | h4
    · exact h.byte y h4
    · injection h4 with h4
      rw [h4]; exact hx
theorem MBP.off {w : World} {m : Nat} {K : Int → Prop} {R : Int → Value} (h : MBP w m K R) {p : Addr} {v : Value} (hp : w.cell? p = some v) : ¬ p.block = m := by
  intro e
  obtain ⟨es, clock, hm⟩ := h
  have h1 := hm.at_
  rw [← e] at h1
  simp [World.cell?, h1] at hp
def LayIs (S : Nat → Prop) (g m nx : Nat) (st : Int) (M : BL) (f : Nat) (w : World) (e : Ending) (w' : World) : Prop := e = .returned (.int .i64 (f : Int)) ∧ RMem w' S g m nx st M ∧ But (fun b => b = m) w w'
set_option maxHeartbeats 1000000 in
theorem lay_mem (S : Nat → Prop) (g m nx i B n c : Nat) (st : Int) (L M : BL) (A : Option Addr) (l : List Int) (w : World) (h : RMem w S g m nx st L) (hB : B = nx + i) (hl : Rd w A n l) (hi : i + n ≤ L.length) (hM : putB (i : Int) l L = M) (f : Nat) (hf : haveB M = haveB L + f) :
    Calls Try.prog 27 #[.pointer (some ⟨g, 0, none⟩), .int .i64 (B : Int), .slice A n c] w (LayIs S g m nx st M f w) := by
  have H := Lib.hid h
  have HL := Lib.hid hl
  have Hll := Lib.hid hl.len
  have Hb := Lib.hid (And.intro h.room (And.intro hi hB))
  have HM := Lib.hid (And.intro hM hf)
  clear h hl hi hB hM hf
  go_enter Try.func27, Try.ntmps27
  go_wp2_with fail
  go_loopg [7, 12] n (fun gk x7 x12 wr => ∃ (t cn : Nat), Hid (gk + t = n) ∧ Hid (cn ≤ t) ∧ x7 = .int .i64 (cn : Int) ∧ x12 = .int .i64 (t : Int) ∧ Hid (haveB (putB (i : Int) (l.take t) L) = haveB L + cn) ∧ Hid (RMem wr S g m nx st (putB (i : Int) (l.take t) L)) ∧ Hid (But (fun b => b = m) w wr))
  case atStart => exact ⟨0, 0, Lib.hid (by omega), Lib.hid (Nat.le_refl _), rfl, rfl, Lib.hid (by rw [put_zero]; rfl), Lib.hid (by rw [put_zero]; exact H.out), Lib.hid (But.refl _ _)⟩
  case round =>
    obtain ⟨t, cn, hgk, hcn, rfl, rfl, HN, HH, HW⟩ := hrel
    obtain rfl : gk = n - t := by have := hgk.out; omega
    have htn : t ≤ n := by have := hgk.out; omega
    have hcn2 : cn ≤ t := hcn.out
    obtain ⟨hb1, hb2, hb3⟩ := Hb.out
    clear hgk
    have hn2 : n ≤ 16384 := by omega
    by_cases ht : t < n
    · have i1 : (t : Int) < (n : Int) := by omega
      have i2 : (t : Int) < 20000 := by omega
      obtain ⟨p, hx, hc0, hp⟩ := HL.out.index (c := c) ht
      have htl : t < l.length := by have := Hll.out; omega
      obtain ⟨x, ex⟩ : ∃ x, l.getD t 0 = x := ⟨_, rfl⟩
      have exl : l[t] = x := by rw [← ex, List.getD, List.getElem?_eq_getElem htl]; rfl
      have hxb : 0 ≤ x ∧ x < 256 := by rw [← exl]; exact HL.out.byte _ (List.getElem_mem htl)
      rw [ex] at hc0
      have hpn : ¬ p.block = m := H.out.map.off hc0
      have hc1 := (HW.out.cell (p := p) hp hpn).trans hc0
      obtain ⟨K, eK⟩ : ∃ K, B + t = K := ⟨_, rfl⟩
      have hK : Hid (wrap64 ((B : Int) + (t : Int)) = (K : Int)) := Lib.hid (by rw [IntWalk.wrap64_in _ (by omega)]; omega)
      have hK2 : K = nx + (i + t) := by omega
      have HK := Lib.hid hK2
      have Hlen : Hid (i + t < L.length) := Lib.hid (by omega)
      clear hc0 eK hb1 hb2 hb3 hK2 ex hpn
      cases hb : isB (putB (i : Int) (l.take t) L) (i + t) with
      | true =>
        have hskip : putB (i : Int) (l.take (t + 1)) L = putB (i : Int) (l.take t) L := put_skip (fun k' hk' _ => by
          obtain rfl : k' = i + t := by omega
          exact hb)
        have HN2 := Lib.hid (show haveB (putB (i : Int) (l.take (t + 1)) L) = haveB L + cn by rw [hskip]; exact HN.out)
        have HH2 := Lib.hid (show RMem wr S g m nx st (putB (i : Int) (l.take (t + 1)) L) by rw [hskip]; exact HH.out)
        clear hskip
        have hK3 := hK.out
        go_wp2_with (go_at_call 35; refine (has_any HH.out (i + t) _ (by rw [HK.out]) true hb).mono ?_; rintro e w' ⟨rfl, rfl⟩)
        clear hK3
        go_roundg (n - (t + 1))
        case measure => omega
        case rel => exact ⟨t + 1, cn, Lib.hid (by omega), Lib.hid (by omega), rfl, by go_num, HN2, HH2, HW⟩
      | false =>
        have hmore : putB (i : Int) (l.take (t + 1)) L = (putB (i : Int) (l.take t) L).set (i + t) (some x) := by
          rw [put_more (by omega) Hlen.out htl hb, exl]
        have HN2 := Lib.hid (show haveB (putB (i : Int) (l.take (t + 1)) L) = haveB L + (cn + 1) by
          rw [hmore, have_more (by rw [put_len]; exact Hlen.out) hb, HN.out]
          omega)
        obtain ⟨w4, hrun, hm4, hb4⟩ := HH.out.put (k := i + t) (x := x) (by rw [put_len]; exact Hlen.out) hxb
        rw [← HK.out] at hrun
        have HH2 := Lib.hid (show RMem w4 S g m nx st (putB (i : Int) (l.take (t + 1)) L) by rw [hmore]; exact hm4)
        have HW2 := Lib.hid (HW.out.trans hb4)
        have k4 := HH.out.k4
        clear hmore hm4 hb4 exl hxb
        have hK3 := hK.out
        go_wp2_with (go_at_call 35; refine (has_any HH.out (i + t) _ (by rw [HK.out]) false hb).mono ?_; rintro e w' ⟨rfl, rfl⟩)
        clear hK3
        go_roundg (n - (t + 1))
        case measure => omega
        case rel => exact ⟨t + 1, cn + 1, Lib.hid (by omega), Lib.hid (by omega), by go_num, by go_num, HN2, HH2, HW2⟩
    · obtain rfl : t = n := by omega
      have i1 : ¬ (t : Int) < (t : Int) := by omega
      obtain ⟨hM, hf⟩ := HM.out
      have e : putB (i : Int) (l.take t) L = M := by rw [List.take_of_length_le (by rw [Hll.out]; exact Nat.le_refl _)]; exact hM
      rw [e] at HN HH
      obtain rfl : f = cn := by have := HN.out; omega
      clear hb1 hb2 hb3 hM hf e
      go_wp2_with fail
      go_ret
      exact ⟨rfl, HH.out, HW.out⟩
end Go.Proofs.Ytmmnicnebammhaa
