/-
  The contracts of package pool's calls, over a pool plainly.
-/
import Derived.Test.YtlifldionfoddaaPoolCopy
namespace Go.Proofs.Ytlifldionfoddaa
set_option maxRecDepth 10000
open Go.RowKit
set_option linter.unusedSimpArgs false
set_option linter.unusedVariables false

def PoolAt (w : World) (S : Nat → Prop) (g : Nat) (s : AP) : Prop := ∃ gp cp gm vE R q, MemAt w S g gp cp gm vE R q ∧ q.ok ∧ Abs s q
theorem PoolAt.but {w w' : World} {S T : Nat → Prop} {g : Nat} {s : AP} (h : PoolAt w S g s) (hb : But T w w') (hT : ∀ k, S k → ¬ T k) : PoolAt w' S g s := by
  obtain ⟨gp, cp, gm, vE, R, q, hm, hq, ha⟩ := h
  exact ⟨gp, cp, gm, vE, R, q, hm.but hb hT, hq, ha⟩
theorem PoolAt.below {w w' : World} {S : Nat → Prop} {g : Nat} {s : AP} (h : PoolAt w S g s) (hb : Below w.heap.size w w') : PoolAt w' S g s :=
  h.but (But.of (S := fun _ => False) hb) (fun _ _ h => h)
theorem PoolAt.lt {w : World} {S : Nat → Prop} {g : Nat} {s : AP} (h : PoolAt w S g s) : ∀ k, S k → k < w.heap.size := by
  obtain ⟨gp, cp, gm, vE, R, q, hm, hq, ha⟩ := h
  exact hm.lt
theorem PoolAt.self {w : World} {S : Nat → Prop} {g : Nat} {s : AP} (h : PoolAt w S g s) : S g := by
  obtain ⟨gp, cp, gm, vE, R, q, hm, hq, ha⟩ := h
  exact hm.sg
theorem PoolAt.blk {w : World} {S : Nat → Prop} {g : Nat} {s : AP} (h : PoolAt w S g s) : ∃ C t, w.heap[g]? = some (.cells C t (0, 0)) := by
  obtain ⟨gp, cp, gm, vE, R, q, hm, hq, ha⟩ := h
  exact ⟨_, _, hm.box⟩
theorem PoolAt.num {w : World} {S : Nat → Prop} {g : Nat} {s : AP} (h : PoolAt w S g s) : 1 ≤ s.lo ∧ 1 ≤ s.n ∧ s.lo + s.n ≤ 65536 := by
  obtain ⟨gp, cp, gm, vE, R, q, hm, hq, ha⟩ := h
  have := hq.lo; have := hq.n; have := hq.hi
  rw [ha.lo, ha.n]
  omega
def NewBad (w : World) (e : Ending) (w' : World) : Prop := RetIs (.tuple #[.pointer none, .int .i64 1]) w e w'
def NewOk (s : AP) (w : World) (e : Ending) (w' : World) : Prop := ∃ g S, e = .returned (.tuple #[.pointer (some ⟨g, 0, none⟩), .int .i64 0]) ∧ PoolAt w' S g s ∧ (∀ k, S k → w.heap.size ≤ k) ∧ Below w.heap.size w w'
theorem new_bad (lo hi rest : Int) (w : World) (h0 : 0 ≤ lo ∧ lo < 65536) (h1 : 0 ≤ hi ∧ hi < 65536) (h2 : 0 ≤ rest ∧ rest < 18446744073709551616) (hb : badA lo hi rest = true) : Calls Try.prog 8 #[.int .u16 lo, .int .u16 hi, .int .u64 rest] w (NewBad w) :=
  new_no lo hi rest w h0 h1 h2 hb
theorem new_ok (lo hi rest : Int) (w : World) (h0 : 0 ≤ lo ∧ lo < 65536) (h1 : 0 ≤ hi ∧ hi < 65536) (h2 : 0 ≤ rest ∧ rest < 18446744073709551616) (hb : badA lo hi rest = false) : Calls Try.prog 8 #[.int .u16 lo, .int .u16 hi, .int .u64 rest] w (NewOk (newA lo hi rest) w) := by
  unfold badA at hb
  simp only [Bool.or_eq_false_iff, decide_eq_false_iff_not] at hb
  obtain ⟨ha, hx, hc⟩ := hb
  refine (new_mem lo hi rest w h0 h1 h2 ha hx hc (hi - lo + 1).toNat (by omega)).mono ?_
  rintro e w' ⟨g, gp, gm, S, rfl, hm, hS, hb⟩
  refine ⟨g, S, rfl, ⟨gp, _, gm, _, _, _, hm, ?_, ?_⟩, hS, hb⟩
  · have hn : (List.replicate (hi - lo + 1).toNat (0 : Int)).length = (hi - lo + 1).toNat := by simp
    refine ⟨by simp only [newQ]; omega, by simp only [newQ]; omega, by simp only [newQ]; omega, ⟨h2.1, by simp only [newQ]; omega⟩, ⟨by simp [newQ], by simp [newQ, bigT]⟩, fun i hi => .inl ?_, fun e ps hm => (by cases hm), fun e ps i hm => (by cases hm), fun i hi h2 => ?_, by simp [newQ], by simp [newQ], fun e ps hm => (by cases hm)⟩
    · simp only [newQ, List.length_replicate] at hi ⊢
      simp [List.getD, hi]
    · simp only [newQ, List.length_replicate] at hi h2
      simp [List.getD, hi] at h2
  · refine ⟨rfl, by simp [newA, newQ], rfl, rfl, fun i hi => ?_, fun i hi h0 => by simp [newA], fun e ps i hm => (by cases hm)⟩
    simp only [newQ, List.length_replicate] at hi ⊢
    simp [newA, List.getD, hi]
def PoolDoes (S : Nat → Prop) (g : Nat) (s : AP) (v : Value) (w : World) (e : Ending) (w' : World) : Prop := e = .returned v ∧ ∃ S', PoolAt w' S' g s ∧ But S w w' ∧ ∀ k, S' k → S k ∨ w.heap.size ≤ k
theorem PoolAt.still {w w' : World} {S : Nat → Prop} {g : Nat} {s : AP} {v : Value} {e : Ending} (h : PoolAt w S g s) (hq : QuietIs v w e w') : PoolDoes S g s v w e w' := by
  obtain ⟨rfl, m, rfl⟩ := hq
  exact ⟨rfl, S, h.below (below_drewN (Below.refl _ _) m), (But.refl S w).drewN m, fun k hk => .inl hk⟩
theorem taken_abs {s : AP} {q : PS} (ha : Abs s q) (p : Int) : takenA s p = takenP q.lo q.st p := by
  unfold takenA takenP hasP
  rw [ha.lo, ha.n]
  by_cases h1 : q.lo ≤ p
  · by_cases h2 : p < q.lo + q.st.length
    · rw [ha.tk _ (by omega)]
      simp [h1, h2]
    · simp [h1, h2]
  · simp [h1]
theorem taken_any (s : AP) (S : Nat → Prop) (g : Nat) (p : Int) (w : World) (h : PoolAt w S g s) (hp : 0 ≤ p ∧ p < 65536) : Calls Try.prog 14 #[.pointer (some ⟨g, 0, none⟩), .int .u16 p] w (PoolDoes S g s (.bool (takenA s p)) w) := by
  have h' := h
  obtain ⟨gp, cp, gm, vE, R, q, hm, hq, ha⟩ := h
  rw [taken_abs ha]
  have := hq.lo; have := hq.hi; have := hq.n
  exact (taken_quiet g gp cp q.lo p q.st _ w (hm.looks (by omega) (by omega)) hp rfl).mono (fun e w' hr => h'.still hr)
theorem count_any (s : AP) (S : Nat → Prop) (g : Nat) (w : World) (h : PoolAt w S g s) : Calls Try.prog 12 #[.pointer (some ⟨g, 0, none⟩)] w (PoolDoes S g s (.int .i64 (countA s : Nat)) w) := by
  have h' := h
  obtain ⟨gp, cp, gm, vE, R, q, hm, hq, ha⟩ := h
  rw [ha.count]
  obtain ⟨k0, k1, k2, k3, k4, k5, k6, k7, k8, k9⟩ := cells10 hm.box
  exact (count_quiet g _ w k0 k6).mono (fun e w' hr => h'.still hr)
set_option maxHeartbeats 1000000 in
theorem free_any (s : AP) (S : Nat → Prop) (g : Nat) (t : Int) (w : World) (h : PoolAt w S g s) (ht : 0 ≤ t ∧ t < 18446744073709551616) : Calls Try.prog 11 #[.pointer (some ⟨g, 0, none⟩), .int .u64 t] w (PoolDoes S g (freeA s t) (.int .i64 (freeN s t : Nat)) w) := by
  have h' := Lib.hid h
  obtain ⟨gp, cp, gm, vE, R, q, hm, hq, ha⟩ := h
  have k0 := (cells10 hm.box).1
  have Hno := Lib.hid (none_quiet g w k0)
  by_cases hb : bigT < t
  · have hd : decide (1099511627776 < t) = true := decide_eq_true hb
    have HF := Lib.hid (show freeA s t = s ∧ ((freeN s t : Nat) : Int) = 0 by unfold freeA freeN; simp [hb])
    rw [HF.out.1, HF.out.2]
    clear hm hq ha k0 hb
    go_enter Try.func11, Try.ntmps11
    go_wp2_with fail
    refine Hno.out.mono ?_
    rintro e w1 ⟨rfl, m, rfl⟩
    go_wp2_with fail
    go_ret
    exact h'.out.still ⟨rfl, m, rfl⟩
  · have hd : decide (1099511627776 < t) = false := decide_eq_false hb
    obtain ⟨m1, em1⟩ : ∃ m1, (if q.now < t then t else q.now) = m1 := ⟨_, rfl⟩
    have Hgo := Lib.hid (fun W (hW : MemAt W S g gp cp gm vE R q) => goon_any S g gp cp gm vE R q t m1 W hW hq ⟨ht.1, by omega⟩ em1)
    have hok : (goQ q m1).ok := goQ_ok hq (by have := hq.now; rw [← em1]; split <;> omega)
    have hab : Abs (atA s t) (goQ q m1) := by rw [← em1]; exact goQ_abs hq ha t
    have HF := Lib.hid (show freeA s t = atA s t ∧ ((freeN s t : Nat) : Int) = cntS (goQ q m1).st 0 by
      unfold freeA freeN
      rw [if_neg hb, if_neg hb]
      exact ⟨rfl, hab.frees hok (goQ_settled hq m1)⟩)
    rw [HF.out.1, HF.out.2]
    have Hm := Lib.hid hm
    have Hok := Lib.hid hok
    have Hab := Lib.hid hab
    clear hm hq ha k0 hb em1 hok hab HF
    go_enter Try.func11, Try.ntmps11
    go_wp2_with fail
    refine Hno.out.mono ?_
    rintro e w1 ⟨rfl, m, rfl⟩
    go_wp2_with fail
    refine (Hgo.out _ (Hm.out.drewN m)).mono ?_
    rintro e w2 ⟨rfl, ⟨vE2, M2⟩, B2⟩
    have k5 := (cells10 M2.box).2.2.2.2.2.1
    have HM2 := Lib.hid M2
    have HB2 := Lib.hid (((But.refl S w).drewN m).trans B2)
    clear M2 B2
    go_wp2_with fail
    go_ret
    exact ⟨rfl, S, ⟨_, _, _, _, _, _, HM2.out, Hok.out, Hab.out⟩, HB2.out, fun k hk => .inl hk⟩
set_option maxHeartbeats 1000000 in
theorem take_any (s : AP) (S : Nat → Prop) (g : Nat) (t : Int) (w : World) (h : PoolAt w S g s) (ht : 0 ≤ t ∧ t < 18446744073709551616) : Calls Try.prog 13 #[.pointer (some ⟨g, 0, none⟩), .int .u64 t] w (PoolDoes S g (takeA s t) (.tuple #[.int .u16 (takeP s t), .int .i64 (takeE s t)]) w) := by
  have h' := Lib.hid h
  obtain ⟨gp, cp, gm, vE, R, q, hm, hq, ha⟩ := h
  have k0 := (cells10 hm.box).1
  have Hno := Lib.hid (none_quiet g w k0)
  by_cases hb : bigT < t
  · have hd : decide (1099511627776 < t) = true := decide_eq_true hb
    have HF := Lib.hid (show takeA s t = s ∧ takeP s t = 0 ∧ takeE s t = 1 by unfold takeA takeP takeE; simp [hb])
    rw [HF.out.1, HF.out.2.1, HF.out.2.2]
    clear hm hq ha k0 hb
    go_enter Try.func13, Try.ntmps13
    go_wp2_with fail
    refine Hno.out.mono ?_
    rintro e w1 ⟨rfl, m, rfl⟩
    go_wp2_with fail
    go_ret2
    exact h'.out.still ⟨rfl, m, rfl⟩
  · have hd : decide (1099511627776 < t) = false := decide_eq_false hb
    obtain ⟨m1, em1⟩ : ∃ m1, (if q.now < t then t else q.now) = m1 := ⟨_, rfl⟩
    have Hgo := Lib.hid (fun W (hW : MemAt W S g gp cp gm vE R q) => goon_any S g gp cp gm vE R q t m1 W hW hq ⟨ht.1, by omega⟩ em1)
    have hok : (goQ q m1).ok := goQ_ok hq (by have := hq.now; rw [← em1]; split <;> omega)
    have hab : Abs (atA s t) (goQ q m1) := by rw [← em1]; exact goQ_abs hq ha t
    have hfst := hab.first hok (goQ_settled hq m1)
    obtain ⟨q2, eq2⟩ : ∃ q2, goQ q m1 = q2 := ⟨_, rfl⟩
    rw [eq2] at Hgo hok hab hfst
    have hlo2 := hok.lo; have hhi2 := hok.hi; have hn2 := hok.n
    have Hleast := Lib.hid (fun p x W (hW : Looks W g gp cp q2.lo q2.st) => least_any g gp cp q2.lo p q2.st x W hW hhi2)
    have Hm := Lib.hid hm
    have Hok := Lib.hid hok
    have Hab := Lib.hid hab
    cases hz : firstZ q2.st with
    | none =>
      have HF := Lib.hid (show takeA s t = atA s t ∧ takeP s t = 0 ∧ takeE s t = 7 by
        unfold takeA takeP takeE
        simp only [if_neg hb, hfst, hz]
        exact ⟨trivial, trivial, trivial⟩)
      rw [HF.out.1, HF.out.2.1, HF.out.2.2]
      have Hz := Lib.hid hz
      clear hm hq ha k0 hb em1 hok hab HF eq2 hfst hz
      go_enter Try.func13, Try.ntmps13
      go_wp2_with fail
      refine Hno.out.mono ?_
      rintro e w1 ⟨rfl, m, rfl⟩
      go_wp2_with fail
      refine (Hgo.out _ (Hm.out.drewN m)).mono ?_
      rintro e w2 ⟨rfl, ⟨vE2, M2⟩, B2⟩
      have Hl2 := Lib.hid (Hleast.out 0 false w2 (M2.looks (by omega) (by omega)) (by unfold leastP; rw [Hz.out]))
      have HM2 := Lib.hid M2
      have HB2 := Lib.hid (((But.refl S w).drewN m).trans B2)
      clear M2 B2
      go_wp2_with fail
      refine Hl2.out.mono ?_
      rintro e w3 ⟨rfl, m3, rfl⟩
      go_wp2_with fail
      go_ret2
      exact ⟨rfl, S, ⟨_, _, _, _, _, _, HM2.out.drewN m3, Hok.out, Hab.out⟩, HB2.out.drewN m3, fun k hk => .inl hk⟩
    | some i =>
      have hmem := fst_mem hz
      have hi : i < q2.st.length := hmem.1
      have h0 : q2.st.getD i 0 = 0 := by have := hmem.2.1; simpa using this
      have HF := Lib.hid (show takeA s t = takeI (atA s t) i ∧ takeP s t = q2.lo + (i : Int) ∧ takeE s t = 0 by
        unfold takeA takeP takeE
        simp only [if_neg hb, hfst, hz]
        exact ⟨trivial, by rw [← hab.lo]; rfl, trivial⟩)
      rw [HF.out.1, HF.out.2.1, HF.out.2.2]
      have Hz := Lib.hid hz
      have H0 := Lib.hid h0
      clear hm hq ha k0 hb em1 hok hab HF eq2 hfst hz hmem h0
      go_enter Try.func13, Try.ntmps13
      go_wp2_with fail
      refine Hno.out.mono ?_
      rintro e w1 ⟨rfl, m, rfl⟩
      go_wp2_with fail
      refine (Hgo.out _ (Hm.out.drewN m)).mono ?_
      rintro e w2 ⟨rfl, ⟨vE2, M2⟩, B2⟩
      have Hl2 := Lib.hid (Hleast.out (q2.lo + (i : Int)) true w2 (M2.looks (by omega) (by omega)) (by unfold leastP; rw [Hz.out]))
      have HM2 := Lib.hid M2
      have HB2 := Lib.hid (((But.refl S w).drewN m).trans B2)
      clear M2 B2
      go_wp2_with fail
      refine Hl2.out.mono ?_
      rintro e w3 ⟨rfl, m3, rfl⟩
      go_wp2_with fail
      refine (turn_mem (a := 0) (b := 1) (.inl ⟨rfl, rfl⟩) S g gp cp gm i vE2 R q2 (q2.lo + (i : Int)) _ (HM2.out.drewN m3) (by omega) hhi2 hi H0.out rfl).mono ?_
      rintro e w4 ⟨rfl, M4, B4⟩
      have HM4 := Lib.hid M4
      have HB4 := Lib.hid ((HB2.out.drewN m3).trans B4)
      clear M4 B4
      go_wp2_with fail
      go_ret2
      exact ⟨rfl, S, ⟨_, _, _, _, _, _, HM4.out, takeQ_ok Hok.out hi H0.out, takeQ_abs Hab.out i⟩, HB4.out, fun k hk => .inl hk⟩
set_option maxHeartbeats 1000000 in
theorem give_any (s : AP) (S : Nat → Prop) (g : Nat) (p t : Int) (w : World) (h : PoolAt w S g s) (hp : 0 ≤ p ∧ p < 65536) (ht : 0 ≤ t ∧ t < 18446744073709551616) : Calls Try.prog 10 #[.pointer (some ⟨g, 0, none⟩), .int .u16 p, .int .u64 t] w (PoolDoes S g (giveA s p t) (.int .i64 (giveE s p t)) w) := by
  have h' := Lib.hid h
  obtain ⟨gp, cp, gm, vE, R, q, hm, hq, ha⟩ := h
  have k0 := (cells10 hm.box).1
  have Hno := Lib.hid (none_quiet g w k0)
  have hlo := hq.lo; have hhi := hq.hi; have hn := hq.n
  by_cases hb : bigT < t
  · have hd : decide (1099511627776 < t) = true := decide_eq_true hb
    have HF := Lib.hid (show giveA s p t = s ∧ giveE s p t = 1 by unfold giveA giveE; simp [hb])
    rw [HF.out.1, HF.out.2]
    clear hm hq ha k0 hb
    go_enter Try.func10, Try.ntmps10
    go_wp2_with fail
    refine Hno.out.mono ?_
    rintro e w1 ⟨rfl, m, rfl⟩
    go_wp2_with fail
    go_ret
    exact h'.out.still ⟨rfl, m, rfl⟩
  · have hd : decide (1099511627776 < t) = false := decide_eq_false hb
    have Htk := Lib.hid (fun x k (hx : takenP q.lo q.st p = x) => taken_quiet g gp cp q.lo p q.st x (w.drewN k) ((hm.looks (by omega) (by omega)).drewN k) hp hx)
    have hta := taken_abs ha p
    cases hx : takenP q.lo q.st p with
    | false =>
      have HF := Lib.hid (show giveA s p t = s ∧ giveE s p t = 6 by
        unfold giveA giveE
        rw [hta, hx]
        simp [hb])
      rw [HF.out.1, HF.out.2]
      have Hx := Lib.hid hx
      clear hm hq ha k0 hb hta hx HF
      go_enter Try.func10, Try.ntmps10
      go_wp2_with fail
      refine Hno.out.mono ?_
      rintro e w1 ⟨rfl, m, rfl⟩
      go_wp2_with fail
      refine (Htk.out _ _ Hx.out).mono ?_
      rintro e w2 ⟨rfl, m2, rfl⟩
      go_wp2_with fail
      go_ret
      exact h'.out.still ⟨rfl, m + m2, rfl⟩
    | true =>
      have hx2 := hx
      unfold takenP hasP at hx2
      simp only [Bool.and_eq_true, decide_eq_true_eq] at hx2
      obtain ⟨i, hi, hil⟩ : ∃ i : Nat, p = q.lo + (i : Int) ∧ i < q.st.length := ⟨(p - q.lo).toNat, by omega, by omega⟩
      have hi1 : q.st.getD i 0 = 1 := by
        have h3 := hx2.2
        rw [show (p - q.lo).toNat = i by omega] at h3
        exact h3
      obtain ⟨m1, em1⟩ : ∃ m1, (if q.now < t then t else q.now) = m1 := ⟨_, rfl⟩
      have Hgo := Lib.hid (fun W (hW : MemAt W S g gp cp gm vE R q) => goon_any S g gp cp gm vE R q t m1 W hW hq ⟨ht.1, by omega⟩ em1)
      have hok : (goQ q m1).ok := goQ_ok hq (by have := hq.now; rw [← em1]; split <;> omega)
      have hab : Abs (atA s t) (goQ q m1) := by rw [← em1]; exact goQ_abs hq ha t
      have hlen : (goQ q m1).st.length = q.st.length := goL_length _ _ _
      have hst : (goQ q m1).st.getD i 0 = 1 := (((goL_ok m1 q.L q rfl hq).2.2 i hil).1).2 hi1
      have hlo2 : (goQ q m1).lo = q.lo := rfl
      have HF := Lib.hid (show giveA s p t = giveI (atA s t) i ∧ giveE s p t = 0 by
        unfold giveA giveE
        rw [hta, hx]
        simp only [if_neg hb, if_true]
        rw [ha.lo, show (p - q.lo).toNat = i by omega]
        exact ⟨rfl, trivial⟩)
      rw [HF.out.1, HF.out.2]
      obtain ⟨q2, eq2⟩ : ∃ q2, goQ q m1 = q2 := ⟨_, rfl⟩
      rw [eq2] at Hgo hok hab hlen hst hlo2
      have Hm := Lib.hid hm
      have Hok := Lib.hid hok
      have Hab := Lib.hid hab
      have Hx := Lib.hid hx
      have Hst := Lib.hid hst
      have Hi := Lib.hid (show p = q2.lo + (i : Int) by rw [hlo2]; exact hi)
      have Hil := Lib.hid (show i < q2.st.length by rw [hlen]; exact hil)
      clear hm hq ha k0 hb em1 hok hab HF eq2 hta hx hx2 hi hil hi1 hlen hst hlo2
      go_enter Try.func10, Try.ntmps10
      go_wp2_with fail
      refine Hno.out.mono ?_
      rintro e w1 ⟨rfl, m, rfl⟩
      go_wp2_with fail
      refine (Htk.out _ _ Hx.out).mono ?_
      rintro e w2 ⟨rfl, m2, rfl⟩
      go_wp2_with fail
      refine (Hgo.out _ (Hm.out.drewN (m + m2))).mono ?_
      rintro e w3 ⟨rfl, ⟨vE2, M2⟩, B2⟩
      have HM2 := Lib.hid M2
      have HB2 := Lib.hid (((But.refl S w).drewN (m + m2)).trans B2)
      clear M2 B2
      go_wp2_with fail
      refine (lay_any S g gp cp gm i vE2 R q2 p w3 HM2.out Hok.out Hil.out Hst.out Hi.out).mono ?_
      rintro e w4 ⟨rfl, S4, L4, v4, R4, M4, A4, B4, hS4⟩
      have HM4 := Lib.hid M4
      have HA4 := Lib.hid A4
      have HB4 := Lib.hid (HB2.out.trans B4)
      have HS4 := Lib.hid (show ∀ k, S4 k → S k ∨ w.heap.size ≤ k from fun k hk => (hS4 k hk).imp id (fun h => Nat.le_trans HB2.out.size h))
      clear M4 A4 B4 hS4
      go_wp2_with fail
      go_ret
      exact ⟨rfl, S4, ⟨_, _, _, _, _, _, HM4.out, restQ_ok Hok.out Hil.out Hst.out HA4.out, restQ_abs Hab.out Hok.out Hil.out Hst.out HA4.out⟩, HB4.out, HS4.out⟩
def CopyIs (s : AP) (w : World) (e : Ending) (w' : World) : Prop := ∃ g S, e = .returned (.pointer (some ⟨g, 0, none⟩)) ∧ PoolAt w' S g s ∧ (∀ k, S k → w.heap.size ≤ k) ∧ Below w.heap.size w w'
theorem copy_any (s : AP) (S : Nat → Prop) (g : Nat) (w : World) (h : PoolAt w S g s) : Calls Try.prog 15 #[.pointer (some ⟨g, 0, none⟩)] w (CopyIs s w) := by
  obtain ⟨gp, cp, gm, vE, R, q, hm, hq, ha⟩ := h
  refine (copy_mem S g gp cp gm vE R q w hm hq).mono ?_
  rintro e w' ⟨g2, gp2, cp2, gm2, vE2, R2, S2, rfl, hm2, hS2, hb2⟩
  exact ⟨g2, S2, rfl, ⟨_, _, _, _, _, _, hm2, hq, ha⟩, hS2, hb2⟩
theorem take_nil (t : Int) (w : World) : Calls Try.prog 13 #[.pointer none, .int .u64 t] w (RetIs (.tuple #[.int .u16 0, .int .i64 2]) w) := by
  have Hno := Lib.hid (none_quiet_nil w)
  go_enter Try.func13, Try.ntmps13
  go_wp2_with fail
  refine Hno.out.mono ?_
  rintro e w1 ⟨rfl, m, rfl⟩
  go_wp2_with fail
  go_ret2
  exact ⟨rfl, below_drewN (Below.refl _ _) m⟩
theorem give_nil (p t : Int) (w : World) : Calls Try.prog 10 #[.pointer none, .int .u16 p, .int .u64 t] w (RetIs (.int .i64 2) w) := by
  have Hno := Lib.hid (none_quiet_nil w)
  go_enter Try.func10, Try.ntmps10
  go_wp2_with fail
  refine Hno.out.mono ?_
  rintro e w1 ⟨rfl, m, rfl⟩
  go_wp2_with fail
  go_ret
  exact ⟨rfl, below_drewN (Below.refl _ _) m⟩
theorem give_zero (g : Nat) (p t : Int) (w : World) (h : w.cell? ⟨g, 0, none⟩ = some (.pointer none)) : Calls Try.prog 10 #[.pointer (some ⟨g, 0, none⟩), .int .u16 p, .int .u64 t] w (RetIs (.int .i64 2) w) := by
  have Hno := Lib.hid (none_quiet_zero g w h)
  go_enter Try.func10, Try.ntmps10
  go_wp2_with fail
  refine Hno.out.mono ?_
  rintro e w1 ⟨rfl, m, rfl⟩
  go_wp2_with fail
  go_ret
  exact ⟨rfl, below_drewN (Below.refl _ _) m⟩
theorem count_nil (w : World) : Calls Try.prog 12 #[.pointer none] w (RetIs (.int .i64 0) w) := by
  have Hno := Lib.hid (none_quiet_nil w)
  go_enter Try.func12, Try.ntmps12
  go_wp2_with fail
  refine Hno.out.mono ?_
  rintro e w1 ⟨rfl, m, rfl⟩
  go_wp2_with fail
  go_ret
  exact ⟨rfl, below_drewN (Below.refl _ _) m⟩
theorem free_nil (t : Int) (w : World) : Calls Try.prog 11 #[.pointer none, .int .u64 t] w (RetIs (.int .i64 0) w) := by
  have Hno := Lib.hid (none_quiet_nil w)
  go_enter Try.func11, Try.ntmps11
  go_wp2_with fail
  refine Hno.out.mono ?_
  rintro e w1 ⟨rfl, m, rfl⟩
  go_wp2_with fail
  go_ret
  exact ⟨rfl, below_drewN (Below.refl _ _) m⟩
theorem copy_nil (w : World) : Calls Try.prog 15 #[.pointer none] w (RetIs (.pointer none) w) := by
  have Hno := Lib.hid (none_quiet_nil w)
  go_enter Try.func15, Try.ntmps15
  go_wp2_with fail
  refine Hno.out.mono ?_
  rintro e w1 ⟨rfl, m, rfl⟩
  go_wp2_with fail
  go_ret
  exact ⟨rfl, below_drewN (Below.refl _ _) m⟩
theorem has_nil (p : Int) (w : World) : Calls Try.prog 21 #[.pointer none, .int .u16 p] w (QuietIs (.bool false) w) := by
  have Hno := Lib.hid (fun k => none_quiet_nil (w.drewN k))
  go_enter Try.func21, Try.ntmps21
  go_wp2_with fail
  go_quiet (exact Calls.quiet_of (Hno.out _))
  go_wp2_with fail
  go_ret
  exact ⟨rfl, nq, rfl⟩
theorem taken_nil (p : Int) (w : World) : Calls Try.prog 14 #[.pointer none, .int .u16 p] w (RetIs (.bool false) w) := by
  have Hno := Lib.hid (fun k => has_nil p (w.drewN k))
  go_enter Try.func14, Try.ntmps14
  go_wp2_with fail
  go_quiet (exact Calls.quiet_of (Hno.out _))
  go_wp2_with fail
  go_ret
  exact ⟨rfl, below_drewN (Below.refl _ _) nq⟩
end Go.Proofs.Ytlifldionfoddaa
