/-
  A buffer of the program's: alone, Next, Room, Ready, New.
-/
import Derived.Test.YtmmnicnebammhaaTk
import Derived.Test.YtmmnicnebammhaaRmMem
import Derived.Test.YtmmnicnebammhaaRmTold
import Derived.Deep.RegionHeld3
namespace Go.Proofs.Ytmmnicnebammhaa
set_option maxRecDepth 10000
open Go.RowKit
set_option linter.unusedSimpArgs false
set_option linter.unusedVariables false

section
variable {w : World} {S : Nat → Prop} {g m nx : Nat} {st : Int} {L : BL}
theorem alone_any (h : RMem w S g m nx st L) (i j A B : Nat) (ha : A = nx + i) (hb : B = nx + j) (hij : i ≤ j) (hj : j ≤ L.length) (q : Bool) (hq : q = true ↔ Alone L i j) :
    Calls Try.prog 26 #[.pointer (some ⟨g, 0, none⟩), .int .i64 (A : Int), .int .i64 (B : Int)] w (JustR (.bool q) w) := by
  have H := Lib.hid h
  have k2 := h.k2
  have hrm := h.room
  have Hb := Lib.hid (And.intro hrm (And.intro (show i ≤ j ∧ j ≤ L.length from ⟨hij, hj⟩) (And.intro ha hb)))
  by_cases h0 : i = 0
  · subst h0
    obtain rfl : q = false := by
      cases q with
      | false => rfl
      | true => exact absurd (hq.1 rfl).1 (by omega)
    rw [Nat.add_zero] at ha
    subst ha
    clear h hq hrm hj hij
    go_enter Try.func26, Try.ntmps26
    go_wp2_with fail
    go_ret
    exact ⟨rfl, rfl⟩
  · have hne : ((A : Int) == (nx : Int)) = false := by rw [beq_eq_false_iff_ne]; omega
    obtain ⟨A1, eA⟩ : ∃ A1 : Nat, A = A1 + 1 := ⟨A - 1, by omega⟩
    have hs : wrap64 ((A : Int) - 1) = (A1 : Int) := by rw [IntWalk.wrap64_in _ (by omega)]; omega
    have Hs := Lib.hid hs
    have H0 := Lib.hid h0
    have EA := Lib.hid eA
    have Hq := Lib.hid hq
    clear h hq hrm hj hij h0 eA ha hb
    go_enter Try.func26, Try.ntmps26
    go_wp2_with fail
    clear hs
    go_loopg [7] (j + 2 - i) (fun gk x wr => ∃ t k : Nat, Hid (gk + t = j + 2 - i) ∧ Hid (k = nx + (i - 1 + t)) ∧ x = .int .i64 (k : Int) ∧ Hid (∀ k, i - 1 ≤ k → k < i - 1 + t → isB L k = false) ∧ wr = w)
    case atStart => exact ⟨0, A1, Lib.hid (by omega), Lib.hid (by have := EA.out; have := Hb.out; have := H0.out; omega), by rw [Hs.out], Lib.hid (fun k h1 h2 => by omega), rfl⟩
    case round =>
      obtain ⟨t, k, hgk, hk, rfl, hall, rfl⟩ := hrel
      obtain rfl : gk = j + 2 - i - t := by have := hgk.out; omega
      have ht : t ≤ j + 2 - i := by have := hgk.out; omega
      have h0 := H0.out
      obtain ⟨hb1, ⟨hb0, hb2⟩, hb3, hb4⟩ := Hb.out
      have hk2 := hk.out
      have Hx := Lib.hid (And.intro h0 (And.intro hb1 (And.intro (show i ≤ j ∧ j ≤ L.length from ⟨hb0, hb2⟩) (And.intro hb3 (And.intro hb4 (And.intro hk2 ht))))))
      by_cases hj : k ≤ B
      · have h1 : (k : Int) ≤ (B : Int) := by omega
        have hbd : k < 16385 := by omega
        have hji : i - 1 + t ≤ j := by omega
        have Hji := Lib.hid hji
        clear hgk h0 hb0 hb1 hb2 hb3 hb4 hk2 hji
        cases hb : isB L (i - 1 + t) with
        | true =>
          obtain rfl : q = false := by
            cases q with
            | false => rfl
            | true =>
              have := (Hq.out.1 rfl).2 _ (by omega) Hji.out
              rw [hb] at this
              cases this
          go_wp2_with (go_at_call 35; refine (has_any H.out (i - 1 + t) _ (by rw [hk.out]) true hb).mono ?_; rintro e w' ⟨rfl, rfl⟩)
          go_ret
          exact ⟨rfl, rfl⟩
        | false =>
          have Ha := Lib.hid (show ∀ k, i - 1 ≤ k → k < i - 1 + (t + 1) → isB L k = false from fun k h1 h2 => by
            by_cases e : k = i - 1 + t
            · rw [e]; exact hb
            · exact hall.out k h1 (by omega))
          go_wp2_with (go_at_call 35; refine (has_any H.out (i - 1 + t) _ (by rw [hk.out]) false hb).mono ?_; rintro e w' ⟨rfl, rfl⟩)
          go_roundg (j + 2 - i - (t + 1))
          case measure => have := Hx.out; have := Hji.out; omega
          case rel => exact ⟨t + 1, k + 1, Lib.hid (by have := Hx.out; have := Hji.out; omega), Lib.hid (by have := Hx.out; omega), by go_num, Ha, rfl⟩
      · have h1 : ¬ (k : Int) ≤ (B : Int) := by omega
        obtain rfl : q = true := Hq.out.2 ⟨by omega, fun k h1 h2 => hall.out k h1 (by omega)⟩
        clear hgk h0 hb0 hb1 hb2 hb3 hb4 hk2
        go_wp2_with fail
        go_ret
        exact ⟨rfl, rfl⟩
theorem next_mem (h : RMem w S g m nx st L) (x : Int) (hx : num32 (st + (nx : Int)) = x) : Calls Try.prog 16 #[.pointer (some ⟨g, 0, none⟩)] w (JustR (.int .u32 x) w) := by
  have k2 := h.k2
  have Hno := Lib.hid (bnone_no g w h.k0)
  have Hnu := Lib.hid (number_any h _ x hx)
  clear h hx
  go_enter Try.func16, Try.ntmps16
  go_wp2_with (first | (go_at_call 23; refine Hno.out.mono ?_; rintro e w' ⟨rfl, rfl⟩) | (go_at_call 30; refine Hnu.out.mono ?_; rintro e w' ⟨rfl, rfl⟩))
  go_ret
  exact ⟨rfl, rfl⟩
/-- The answer; nothing but draws. -/
def DrawR (v : Value) (w : World) (e : Ending) (w' : World) : Prop := e = .returned v ∧ ∃ n, w' = w.drewN n
theorem room_mem (h : RMem w S g m nx st L) : Calls Try.prog 17 #[.pointer (some ⟨g, 0, none⟩)] w (DrawR (.int .i64 (L.length : Int)) w) := by
  have k2 := h.k2
  have k3 := h.k3
  have hrm := h.room
  have Hno := Lib.hid (bnone_no g w h.k0)
  obtain ⟨e, ee⟩ : ∃ e, nx + L.length = e := ⟨_, rfl⟩
  rw [ee] at k3
  have hs : IntKind.i64.wrap ((e : Int) - (nx : Int)) = (L.length : Int) := by rw [IntKind.wrap_i64]; omega
  clear h hrm ee
  go_enter Try.func17, Try.ntmps17
  go_wp2_with (go_at_call 23; refine Hno.out.mono ?_; rintro e w' ⟨rfl, rfl⟩)
  refine wp_region_held_drew (S := fun w' => w'.cell? ⟨g, 2, none⟩ = some (.int .i64 (nx : Int)) ∧ w'.cell? ⟨g, 3, none⟩ = some (.int .i64 (e : Int))) (by kernel_rfl) (by exact ⟨k2, k3⟩) (fun hHeld => ?_)
  refine tk 0 ?_ rfl ?_ ?_
  rotate_left
  · intro w' hSw; (go_simp <;> (with_reducible rfl))
  try simp only [Act.put, putL]
  refine tk 1 ?_ rfl ?_ ?_
  rotate_left
  · intro w' hSw; (go_simp <;> (with_reducible rfl))
  try simp only [Act.put, putL]
  refine tk 2 ?_ rfl ?_ ?_
  rotate_left
  · intro w' hSw; (go_simp <;> (with_reducible rfl))
  try simp only [Act.put, putL]
  refine tk 3 ?_ rfl ?_ ?_
  rotate_left
  · intro w' hSw; (go_simp <;> (with_reducible rfl))
  try simp only [Act.put, putL]
  refine tk 4 ?_ rfl ?_ ?_
  rotate_left
  · intro w' hSw; (go_simp <;> (with_reducible rfl))
  try simp only [Act.put, putL]
  refine tk 5 ?_ rfl ?_ ?_
  rotate_left
  · intro w' hSw; (go_simp <;> (with_reducible rfl))
  try simp only [Act.put, putL]
  refine tk 6 ?_ rfl ?_ ?_
  rotate_left
  · intro w' hSw; (go_simp <;> (with_reducible rfl))
  try simp only [Act.put, putL]
  refine tk 7 ?_ rfl ?_ ?_
  rotate_left
  · intro w' hSw; (go_simp <;> (with_reducible rfl))
  try simp only [Act.put, putL]
  refine tk 8 ?_ rfl ?_ ?_
  rotate_left
  · intro w' hSw; (go_simp <;> (with_reducible rfl))
  try simp only [Act.put, putL]
  refine tk 9 ?_ rfl ?_ ?_
  rotate_left
  · intro w' hSw; (go_simp <;> (with_reducible rfl))
  try simp only [Act.put, putL]
  refine wpAnyH_done (by kernel_rfl) ?_ _
  go_wp2_with fail
  go_ret
  exact ⟨rfl, 1, rfl⟩
theorem ready_mem (h : RMem w S g m nx st L) (r : Nat) (hr : readyB L = r) : Calls Try.prog 18 #[.pointer (some ⟨g, 0, none⟩)] w (DrawR (.int .i64 (r : Int)) w) := by
  have k2 := h.k2
  have hrm := h.room
  have hrl := ready_le L
  rw [hr] at hrl
  have Hno := Lib.hid (bnone_no g w h.k0)
  have hbe := behind_any (h.drewN 1) 0 r (nx : Int) (by rfl) (by simpa using hr) (by omega)
  obtain ⟨e, ee⟩ : ∃ e, nx + (0 + r) = e := ⟨_, rfl⟩
  rw [ee] at hbe
  have Hbe := Lib.hid hbe
  have hs : IntKind.i64.wrap ((e : Int) - (nx : Int)) = (r : Int) := by rw [IntKind.wrap_i64]; omega
  clear h hrm hr hrl ee hbe
  go_enter Try.func18, Try.ntmps18
  go_wp2_with (go_at_call 23; refine Hno.out.mono ?_; rintro e w' ⟨rfl, rfl⟩)
  refine wp_region_held_drew (S := fun w' => w'.cell? ⟨g, 2, none⟩ = some (.int .i64 (nx : Int))) (by kernel_rfl) (by exact k2) (fun hHeld => ?_)
  refine tk 0 ?_ rfl ?_ ?_
  rotate_left
  · intro w' hSw; (go_simp <;> (with_reducible rfl))
  try simp only [Act.put, putL]
  refine tk 1 ?_ rfl ?_ ?_
  rotate_left
  · intro w' hSw; (go_simp <;> (with_reducible rfl))
  try simp only [Act.put, putL]
  refine tk 2 ?_ rfl ?_ ?_
  rotate_left
  · intro w' hSw; (go_simp <;> (with_reducible rfl))
  try simp only [Act.put, putL]
  refine tk 3 ?_ rfl ?_ ?_
  rotate_left
  · intro w' hSw; (go_simp <;> (with_reducible rfl))
  try simp only [Act.put, putL]
  refine tk 4 ?_ rfl ?_ ?_
  rotate_left
  · intro w' hSw; (go_simp <;> (with_reducible rfl))
  try simp only [Act.put, putL]
  refine tk 6 ?_ rfl ?_ ?_
  rotate_left
  · intro w' hSw; (go_simp <;> (with_reducible rfl))
  try simp only [Act.put, putL]
  refine tk 7 ?_ rfl ?_ ?_
  rotate_left
  · intro w' hSw; (go_simp <;> (with_reducible rfl))
  try simp only [Act.put, putL]
  refine tk 8 ?_ rfl ?_ ?_
  rotate_left
  · intro w' hSw; (go_simp <;> (with_reducible rfl))
  try simp only [Act.put, putL]
  refine tk 9 ?_ rfl ?_ ?_
  rotate_left
  · intro w' hSw; (go_simp <;> (with_reducible rfl))
  try simp only [Act.put, putL]
  refine tkC 5 rfl (fun K hK => ?_)
  go_simp
  refine Hbe.out.mono ?_; rintro e w' ⟨rfl, rfl⟩
  refine hK.out _ _ ?_ (fun hHeld => ?_)
  · exact k2
  clear hK K
  try simp only [Act.put, putL]
  refine tk 10 ?_ rfl ?_ ?_
  rotate_left
  · intro w' hSw; (go_simp <;> (with_reducible rfl))
  try simp only [Act.put, putL]
  refine tk 11 ?_ rfl ?_ ?_
  rotate_left
  · intro w' hSw; (go_simp <;> (with_reducible rfl))
  try simp only [Act.put, putL]
  refine wpAnyH_done (by kernel_rfl) ?_ _
  go_wp2_with fail
  go_ret
  exact ⟨rfl, 1, rfl⟩
end
end Go.Proofs.Ytmmnicnebammhaa
