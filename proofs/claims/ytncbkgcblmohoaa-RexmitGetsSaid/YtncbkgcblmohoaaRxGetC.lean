/-
  seq.Cut of a piece, as RexmitGets asks it.
-/
import Derived.Test.YtncbkgcblmohoaaSeqCut
import Derived.Test.YtncbkgcblmohoaaRxGetP
import Derived.Test.YtncbkgcblmohoaaRdSub
namespace Go.Proofs.Ytncbkgcblmohoaa
set_option maxRecDepth 10000
open Go.RowKit
set_option linter.unusedSimpArgs false
set_option linter.unusedVariables false

theorem sahead_near (x : Int) (o e : Nat) (ho : o ≤ 1000) (he : e ≤ 1000) : sAhead (numX (x + (e : Int))) (numX (x + (o : Int))) = (o : Int) - (e : Int) := by unfold sAhead numX; omega
theorem gcut_any (x : Int) (o e dl c : Nat) (A : Option Addr) (d : List Int) (w : World) (hr : Rd w A dl d) (hc : dl ≤ c) (ho : o ≤ 1000) (he : e ≤ 1000) (hdl : dl ≤ 1000) (sq f : Int) (hsq : numX (x + (o : Int)) = sq) (hf : numX (x + (e : Int)) = f) :
    Calls Try.prog 37 #[.int .u32 sq, .slice A dl c, .int .u32 f, .int .u32 1048576] w (fun en w' => ∃ a2 A2 k c2, en = .returned (.tuple #[.int .u32 a2, .slice A2 k c2]) ∧ k = dl - (e - o) ∧ Rd w' A2 k (d.drop (e - o)) ∧ Below w.heap.size w w') := by
  subst hsq; subst hf
  have hs := sahead_near x o e ho he
  obtain ⟨lo, elo⟩ : ∃ lo, min (e - o) dl = lo := ⟨_, rfl⟩
  have h1 : pl (0 - ((o : Int) - (e : Int))) dl = lo := by unfold pl; omega
  have h2 : pl (1048576 - ((o : Int) - (e : Int))) dl = dl := by unfold pl; omega
  by_cases h0 : lo = dl
  · have hC : CutAt (numX (x + (o : Int))) (numX (x + (e : Int))) 1048576 dl ((o : Int) - (e : Int)) 1048576 dl dl := ⟨hs.symm, by omega, by rw [h1]; exact h0, h2⟩
    refine (cut_none _ _ _ _ _ A dl c dl w ⟨by omega, by omega⟩ (by omega) hc hC).mono ?_
    rintro en w' ⟨rfl, hb⟩
    refine ⟨_, none, 0, 0, rfl, by omega, ?_, hb⟩
    rw [List.drop_eq_nil_of_le (by rw [hr.len]; omega)]
    exact Rd.nil _ _
  · obtain ⟨b, o2, rfl, hlt, hcell⟩ := hr.at_ (by omega)
    obtain ⟨m, em⟩ : ∃ m, dl - lo = m := ⟨_, rfl⟩
    have hC : CutAt (numX (x + (o : Int))) (numX (x + (e : Int))) 1048576 dl ((o : Int) - (e : Int)) 1048576 lo (lo + m) := ⟨hs.symm, by omega, h1, by rw [h2]; omega⟩
    refine (cut_some _ _ _ _ _ b o2 dl c lo m d w ⟨by omega, by omega⟩ (by omega) hc (by omega) hr.len hlt hcell hC).mono ?_
    rintro en w' ⟨rfl, hk, hb⟩
    refine ⟨_, _, m, m, rfl, by omega, ?_, hb⟩
    have hl := hr.len
    have e2 : (d.drop lo).take m = d.drop (e - o) := by
      rw [show e - o = lo by omega, List.take_of_length_le (by rw [List.length_drop]; omega)]
    rw [e2] at hk
    have hlen : (d.drop (e - o)).length = m := by rw [List.length_drop]; omega
    have := Rd.row hk (fun y hy => hr.byte y (List.mem_of_mem_drop hy))
    rw [hlen] at this
    exact this
theorem less_near (x : Int) (o e : Nat) (ho : o ≤ 1000) (he : e ≤ 1000) : sLess (numX (x + (e : Int))) (numX (x + (o : Int))) = decide (e < o) := by
  unfold sLess
  rw [sahead_near x o e ho he]
  rw [Bool.eq_iff_iff, decide_eq_true_iff, decide_eq_true_iff]
  omega
end Go.Proofs.Ytncbkgcblmohoaa
