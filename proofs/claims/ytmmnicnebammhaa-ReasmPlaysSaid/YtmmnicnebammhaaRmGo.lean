/-
  What the program's buffer does, as the laws are walked over it: 'reasmFace'.
-/
import Derived.Test.YtmmnicnebammhaaRmFace
import Derived.Test.YtmmnicnebammhaaRmNew
import Derived.Test.YtmmnicnebammhaaRmTake
import Derived.Test.YtmmnicnebammhaaRmPut
import Derived.Test.YtmmnicnebammhaaRmCopy
namespace Go.Proofs.Ytmmnicnebammhaa
set_option maxRecDepth 10000
open Go.RowKit
set_option linter.unusedSimpArgs false
set_option linter.unusedVariables false

theorem drew_but {w : World} (S : Nat → Prop) (n : Nat) : But S w (w.drewN n) := (But.refl S w).drewN n
theorem RmAt.but {w w' : World} {S T : Nat → Prop} {g : Nat} {at_ : Int} {L : BL} (h : RmAt w S g at_ L) (hb : But T w w') (hT : ∀ k, S k → ¬ T k) : RmAt w' S g at_ L := by
  obtain ⟨m, nx, st, h1, h2, h3⟩ := h
  exact ⟨m, nx, st, h1.but hb hT, h2, h3⟩
theorem num_ahead (st : Int) (nx r : Nat) (at_ : Int) (h : num32 (st + (nx : Int)) = at_) : num32 (st + ((nx + r : Nat) : Int)) = num32 (at_ + (r : Int)) := by
  rw [← h]
  unfold num32
  omega
theorem reasmFace : BFace RmAt where
  but := RmAt.but
  lt := by
    rintro w S g at_ L ⟨m, nx, st, h1, h2, h3⟩
    exact h1.lt
  ok := by
    rintro w S g at_ L ⟨m, nx, st, h1, h2, h3⟩
    have := h1.room
    exact ⟨by rw [← h2]; unfold num32; omega, by omega, h1.byte, h3⟩
  new_bad := fun at_ room w _ _ h => new_bad at_ room w h
  new_ok := fun at_ n w hat hn => new_ok at_ n w hat hn
  put_ := by
    rintro S g at_ L a A n c l w ⟨m, nx, st, h1, h2, h3⟩ ha hl hn hnc hc hA
    exact put_mem S g m nx st at_ a L A n c l w h1 h2 h3 hl hn hnc
  take_ := by
    rintro S g at_ L w ⟨m, nx, st, h1, h2, h3⟩
    refine (take_mem S g m nx (readyB L) st L (takeB L) w h1 rfl rfl).mono ?_
    rintro e w' ⟨A, c, rfl, hT⟩
    have hlen := take_len L
    rw [← hlen] at hT
    refine ⟨A, c, by rw [hlen], hT.own, S, ⟨m, nx + readyB L, st, by have := hT.mem; rw [hlen] at this; exact this, num_ahead st nx _ at_ h2, ?_⟩, hT.all, fun k hk => .inl hk, fun b hb hs => ?_⟩
    · exact Nat.le_trans (holes_left L) h3
    · have h4 := h1.lt b hs
      rcases hT.own.2 with ⟨e1, _⟩ | ⟨g2, cap, cur, e1, hB, _⟩
      · rw [e1] at hb; cases hb
      · rw [e1] at hb
        have : g2 = b := by simpa [Value.ownBlock] using hb
        omega
  next_ := by
    rintro S g at_ L w ⟨m, nx, st, h1, h2, h3⟩
    refine (next_mem h1 at_ h2).mono ?_
    rintro e w' ⟨rfl, rfl⟩
    exact ⟨rfl, S, ⟨m, nx, st, h1, h2, h3⟩, But.refl _ _, fun k hk => .inl hk⟩
  room_ := by
    rintro S g at_ L w ⟨m, nx, st, h1, h2, h3⟩
    refine (room_mem h1).mono ?_
    rintro e w' ⟨rfl, n, rfl⟩
    exact ⟨rfl, S, ⟨m, nx, st, h1.drewN n, h2, h3⟩, drew_but _ _, fun k hk => .inl hk⟩
  ready_ := by
    rintro S g at_ L w ⟨m, nx, st, h1, h2, h3⟩
    refine (ready_mem h1 _ rfl).mono ?_
    rintro e w' ⟨rfl, n, rfl⟩
    exact ⟨rfl, S, ⟨m, nx, st, h1.drewN n, h2, h3⟩, drew_but _ _, fun k hk => .inl hk⟩
  held_ := by
    rintro S g at_ L w ⟨m, nx, st, h1, h2, h3⟩
    refine (held_mem w S g m nx st at_ L h1 h2).mono ?_
    rintro e w' ⟨p, q, v, rfl, hP⟩
    exact ⟨v, rfl, hP.sl, S, ⟨m, nx, st, hP.mem, h2, h3⟩, But.of hP.old, fun k hk => .inl hk, fun b hb => ⟨hP.own b hb, fun hs => by
      have := hP.own b hb
      have := h1.lt b hs
      omega⟩⟩
  copy_ := by
    rintro S g at_ L w ⟨m, nx, st, h1, h2, h3⟩
    exact copy_mem S g m nx st at_ L w h1 h2 h3
end Go.Proofs.Ytmmnicnebammhaa
