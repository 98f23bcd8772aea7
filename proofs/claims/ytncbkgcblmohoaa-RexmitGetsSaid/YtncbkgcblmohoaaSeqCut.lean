/-
  The contract of package seq's Cut: the part of the bytes that stands in the stretch, in new memory; what was there stays.
-/
import Derived.Test.YtncbkgcblmohoaaSeqNum
import Derived.Test.YtncbkgcblmohoaaBytesApp
import Derived.Laws.CopyOwn
namespace Go.Proofs.Ytncbkgcblmohoaa
set_option maxRecDepth 10000
open Go.RowKit

theorem place_any (ahead s : Int) (A : Option Addr) (n c : Nat) (p q : Addr) (w : World) (hp : w.cell? p = some (.int .i64 s)) (hq : w.cell? q = some (.slice A n c))
    (h0 : -4294967296 ≤ ahead - s) (h1 : ahead - s ≤ 4294967296) (hn : n ≤ 2147483647) :
    Calls Try.prog 53 #[.int .i64 ahead, .pointer (some p), .pointer (some q)] w fun e w' => e = .returned (.int .i64 ((pl (ahead - s) n : Nat) : Int)) ∧ w = w' := by
  go_enter Try.func53, Try.ntmps53
  go_wp2
  all_goals go_ret
  all_goals exact ⟨ret_int (by unfold pl; first | omega | (split at * <;> omega)), rfl⟩

theorem place_at (ahead s : Int) (A : Option Addr) (n c k : Nat) (p q : Addr) (w : World) (hk : Hid (pl (ahead - s) n = k)) (hp : w.cell? p = some (.int .i64 s)) (hq : w.cell? q = some (.slice A n c))
    (h0 : -4294967296 ≤ ahead - s) (h1 : ahead - s ≤ 4294967296) (hn : n ≤ 2147483647) :
    Calls Try.prog 53 #[.int .i64 ahead, .pointer (some p), .pointer (some q)] w fun e w' => e = .returned (.int .i64 (k : Int)) ∧ w = w' := by
  have := hk.out
  subst this
  exact place_any ahead s A n c p q w hp hq h0 h1 hn

theorem ahead_is (a b s : Int) (w : World) (h : Hid (s = sAhead a b)) :
    Calls Try.prog 34 #[.int .u32 a, .int .u32 b] w fun e w' => e = .returned (.int .i32 s) ∧ w = w' := by
  rw [h.out]; exact ahead_any a b w

/-- What the walk of Cut is told: how far 'at' is ahead (s), the bound on the stretch (lm), the first place and the one behind (lo, hi). -/
structure CutAt (at_ f lg : Int) (n : Nat) (s lm : Int) (lo hi : Nat) : Prop where
  es : s = sAhead f at_
  em : lm = min lg 2147483647
  el : pl (0 - s) n = lo
  eh : pl (lm - s) n = hi

set_option maxHeartbeats 1000000 in
theorem cut_none (at_ f lg s lm : Int) (A : Option Addr) (n c k : Nat) (w : World) (hl : U32 lg) (hn : n ≤ 2147483647) (hc : n ≤ c)
    (hC : CutAt at_ f lg n s lm k k) :
    Calls Try.prog 37 #[.int .u32 at_, .slice A n c, .int .u32 f, .int .u32 lg] w fun e w' => e = .returned (.tuple #[.int .u32 f, .slice none 0 0]) ∧ Below w.heap.size w w' := by
  obtain ⟨he, hlm, h1, h2⟩ := hC
  obtain ⟨hs0, hs1⟩ : -2147483648 ≤ s ∧ s ≤ 2147483647 := by have := sAhead_bd f at_; omega
  have He := Lib.hid he
  have Hlo := Lib.hid h1
  have Hhi := Lib.hid h2
  clear he h1 h2
  obtain ⟨hl0, hl1⟩ := hl
  have hb : Below w.heap.size w ((w.alloc (.cells #[.slice A n c] 37)).alloc (.cells #[.int .i64 s] 2)) := ((Below.refl _ _).alloc (Nat.le_refl _) _).alloc (by simp) _
  have Hb := Lib.hid hb
  clear hb
  by_cases hlim : lg ≤ 2147483647
  · obtain rfl : lg = lm := by omega
    clear hlm
    go_enter Try.func37, Try.ntmps37
    go_wp2_with (first | (go_at_call 34; refine (ahead_is _ _ s _ He).mono ?_; rintro e w' ⟨rfl, rfl⟩) | (go_at_call 53; (with_reducible refine (place_at 0 s A n c k _ _ _ Hlo ?_ ?_ ?_ ?_ hn).mono ?_); (· go_simp); (· go_simp); (· omega); (· omega); rintro e w' ⟨rfl, rfl⟩) | (go_at_call 53; (with_reducible refine (place_at _ s A n c k _ _ _ Hhi ?_ ?_ ?_ ?_ hn).mono ?_); (· go_simp); (· go_simp); (· omega); (· omega); rintro e w' ⟨rfl, rfl⟩))
    go_ret2
    exact ⟨rfl, Hb.out⟩
  · obtain rfl : 2147483647 = lm := by omega
    clear hlm
    have hlim' : 2147483647 < lg := by omega
    clear hlim
    go_enter Try.func37, Try.ntmps37
    go_wp2_with (first | (go_at_call 34; refine (ahead_is _ _ s _ He).mono ?_; rintro e w' ⟨rfl, rfl⟩) | (go_at_call 53; (with_reducible refine (place_at 0 s A n c k _ _ _ Hlo ?_ ?_ ?_ ?_ hn).mono ?_); (· go_simp); (· go_simp); (· omega); (· omega); rintro e w' ⟨rfl, rfl⟩) | (go_at_call 53; (with_reducible refine (place_at _ s A n c k _ _ _ Hhi ?_ ?_ ?_ ?_ hn).mono ?_); (· go_simp); (· go_simp); (· omega); (· omega); rintro e w' ⟨rfl, rfl⟩))
    go_ret2
    exact ⟨rfl, Hb.out⟩

theorem make_bytes (m : Nat) (hm : m ≤ 2147483647) (w : World) :
    (Instr.makeSlice 37 (.int .i64 (m : Int)) (.int .i64 (m : Int))).run Try.prog w = .ok (.slice (some ⟨w.heap.size, 0, none⟩) m m) (w.alloc (.cells (madeCells (Value.int .u8 0).cells m) 5)) := by
  obtain ⟨i0, hi, hz0, hz1, hz2⟩ := info_parts info5
  have h := run_make (P := Try.prog) w 37 5 i0 (.int .u8 0) Try.underlying37 hi hz0 .i64 .i64 (m : Int) (m : Int) (by omega) (by omega) (by rw [hz2]; omega) (by omega)
  rw [hz1] at h
  simpa using h

def CutPost (w : World) (x : Int) (m : Nat) (cs : List Int) (e : Ending) (w' : World) : Prop :=
  e = .returned (.tuple #[.int .u32 x, .slice (some ⟨w.heap.size + 2, 0, none⟩) m m]) ∧ w'.heap[w.heap.size + 2]? = some (.cells (cs.map (Value.int .u8)).toArray 5 (0, 0)) ∧ Below w.heap.size w w'

theorem size5 : (Try.prog.info? 5).map (·.size) = some 1 := by kernel_rfl

theorem splice_all (m : Nat) (cs : List Value) (h : cs.length = m) : splice (madeCells #[Value.int .u8 0] m).toList 0 cs = cs := by
  have hl : (madeCells #[Value.int .u8 0] m).toList.length = m := by simp [size_madeCells]
  unfold splice
  rw [List.take_zero, List.nil_append, List.drop_eq_nil_of_le (by omega), List.append_nil]

/-- What copy writes: the bytes from place lo on, m of them. -/
theorem copied {w w1 : World} {b o n lo m : Nat} {l : List Int} (hlen : l.length = n) (hle : lo + m ≤ n) (hb : b < w.heap.size) (hcell : ∀ i, i < n → w.cell? ⟨b, o + i, none⟩ = some (.int .u8 (l.getD i 0)))
    (hbe : Below w.heap.size w w1) : ∀ j v, (((l.drop lo).take m).map (Value.int .u8))[j]? = some v → w1.cell? ((⟨b, o + lo, none⟩ : Addr).add j) = some v := by
  intro j v hj
  have hjm : j < m := by
    have := (List.getElem?_eq_some_iff.1 hj).1
    simp at this
    omega
  refine cell_add ?_
  rw [hbe.cell (p := ⟨b, o + lo + j, none⟩) hb, Nat.add_assoc, hcell (lo + j) (by omega)]
  simp only [List.getElem?_map, List.getElem?_take_of_lt hjm, List.getElem?_drop] at hj
  rw [List.getElem?_eq_getElem (by omega)] at hj
  simp at hj
  rw [← hj]
  simp [List.getD, List.getElem?_eq_getElem (show lo + j < l.length by omega)]

set_option maxHeartbeats 1000000 in
theorem cut_some (at_ f lg s lm : Int) (b o n c lo m : Nat) (l : List Int) (w : World) (hl : U32 lg) (hn : n ≤ 2147483647) (hc : n ≤ c) (hm : 0 < m)
    (hlen : l.length = n) (hb : b < w.heap.size) (hcell : ∀ i, i < n → w.cell? ⟨b, o + i, none⟩ = some (.int .u8 (l.getD i 0)))
    (hC : CutAt at_ f lg n s lm lo (lo + m)) :
    Calls Try.prog 37 #[.int .u32 at_, .slice (some ⟨b, o, none⟩) n c, .int .u32 f, .int .u32 lg] w (CutPost w (sAdd at_ lo) m ((l.drop lo).take m)) := by
  obtain ⟨he, hlm, h1, h2⟩ := hC
  obtain ⟨hs0, hs1⟩ : -2147483648 ≤ s ∧ s ≤ 2147483647 := by have := sAhead_bd f at_; omega
  have hle : lo + m ≤ n := by rw [← h2]; exact pl_le _ _
  have hb0 : Below w.heap.size w (((w.alloc (.cells #[.slice (some ⟨b, o, none⟩) n c] 37)).alloc (.cells #[.int .i64 s] 2)).alloc (.cells (madeCells #[.int .u8 0] m) 5)) := (((Below.refl _ _).alloc (Nat.le_refl _) _).alloc (by simp) _).alloc (by simp; omega) _
  have hcs : (((l.drop lo).take m).map (Value.int .u8)).length = m := by simp; omega
  have hcp := copied hlen hle hb hcell hb0
  obtain ⟨cs, ecs⟩ : ∃ cs, cs = ((l.drop lo).take m).map (Value.int .u8) := ⟨_, rfl⟩
  rw [← ecs] at hcs hcp
  have hg : (((w.alloc (.cells #[.slice (some ⟨b, o, none⟩) n c] 37)).alloc (.cells #[.int .i64 s] 2)).alloc (.cells (madeCells #[.int .u8 0] m) 5)).heap[w.heap.size + 1 + 1]? = some (.cells (madeCells #[.int .u8 0] m).toList.toArray 5 (0, 0)) := by
    have := heap_alloc_new ((w.alloc (.cells #[.slice (some ⟨b, o, none⟩) n c] 37)).alloc (.cells #[.int .i64 s] 2)) (.cells (madeCells #[.int .u8 0] m) 5)
    simpa using this
  have He := Lib.hid he
  have Hlo := Lib.hid h1
  have Hhi := Lib.hid h2
  have Hmk := Lib.hid (make_bytes m (by omega))
  have Hb0 := Lib.hid hb0
  have Hcs := Lib.hid hcs
  have Hcp := Lib.hid hcp
  have Hg := Lib.hid hg
  have Ecs := Lib.hid ecs
  have Hone : Hid (∀ v ∈ cs, v.oneCell' = true) := by
    show ∀ v ∈ cs, v.oneCell' = true
    rw [ecs]
    intro v hv
    obtain ⟨x, _, rfl⟩ := List.mem_map.1 hv
    rfl
  have hpost : ∀ w', Hid (w'.heap[w.heap.size + 1 + 1]? = some (.cells (splice (madeCells #[Value.int .u8 0] m).toList 0 cs).toArray 5 (0, 0))) → Below w.heap.size w w' → CutPost w (sAdd at_ lo) m ((l.drop lo).take m) (.returned (.tuple #[.int .u32 (sAdd at_ lo), .slice (some ⟨w.heap.size + 1 + 1, 0, none⟩) m m])) w' := by
    intro w' h hbw
    refine ⟨rfl, ?_, hbw⟩
    have h := h.out
    rw [splice_all m cs hcs, ecs] at h
    exact h
  have Hpost := Lib.hid hpost
  clear he h1 h2 hcell hlen hb0 hcs hcp hg ecs hpost
  obtain ⟨P, hP⟩ : ∃ P, P = CutPost w (sAdd at_ lo) m ((l.drop lo).take m) := ⟨_, rfl⟩
  rw [← hP] at Hpost ⊢
  clear hP
  have hne : ((lo : Int) == (lo : Int) + (m : Int)) = false := by simp; omega
  obtain ⟨hl0, hl1⟩ := hl
  have hmk := Hmk.out
  by_cases hlim : lg ≤ 2147483647
  · obtain rfl : lg = lm := by omega
    clear hlm
    go_enter Try.func37, Try.ntmps37
    go_wp2_with (first | (go_at_call 34; refine (ahead_is _ _ s _ He).mono ?_; rintro e w' ⟨rfl, rfl⟩) | (go_at_call 53; (with_reducible refine (place_at 0 s (some ⟨b, o, none⟩) n c lo _ _ _ Hlo ?_ ?_ ?_ ?_ hn).mono ?_); (· go_simp); (· go_simp); (· omega); (· omega); rintro e w' ⟨rfl, rfl⟩) | (go_at_call 53; (with_reducible refine (place_at _ s (some ⟨b, o, none⟩) n c (lo + m) _ _ _ Hhi ?_ ?_ ?_ ?_ hn).mono ?_); (· go_simp); (· go_simp); (· omega); (· omega); rintro e w' ⟨rfl, rfl⟩) | (go_at_call 36; refine (add_any _ _ _).mono ?_; rintro e w' ⟨rfl, rfl⟩) | (refine wpList_copy_splice rfl (.tmp 45) (.tmp 46) 37 37 rfl 5 Try.underlying37 size5 _ _ _ _ _ _ rfl rfl (w.heap.size + 1 + 1) 0 (madeCells #[Value.int .u8 0] m).toList 5 Hg.out cs (by rw [Hcs.out]; simp) (fun _ => ⟨rfl, _, rfl, Hcp.out⟩) (by rw [Hcs.out]; simp [size_madeCells]) Hone.out w.heap.size w Hb0.out (by omega) ?_; intro w2 hg2 hb2))
    exact Hpost.out _ hg2 hb2
  · obtain rfl : 2147483647 = lm := by omega
    clear hlm
    have hlim' : 2147483647 < lg := by omega
    clear hlim
    go_enter Try.func37, Try.ntmps37
    go_wp2_with (first | (go_at_call 34; refine (ahead_is _ _ s _ He).mono ?_; rintro e w' ⟨rfl, rfl⟩) | (go_at_call 53; (with_reducible refine (place_at 0 s (some ⟨b, o, none⟩) n c lo _ _ _ Hlo ?_ ?_ ?_ ?_ hn).mono ?_); (· go_simp); (· go_simp); (· omega); (· omega); rintro e w' ⟨rfl, rfl⟩) | (go_at_call 53; (with_reducible refine (place_at _ s (some ⟨b, o, none⟩) n c (lo + m) _ _ _ Hhi ?_ ?_ ?_ ?_ hn).mono ?_); (· go_simp); (· go_simp); (· omega); (· omega); rintro e w' ⟨rfl, rfl⟩) | (go_at_call 36; refine (add_any _ _ _).mono ?_; rintro e w' ⟨rfl, rfl⟩) | (refine wpList_copy_splice rfl (.tmp 45) (.tmp 46) 37 37 rfl 5 Try.underlying37 size5 _ _ _ _ _ _ rfl rfl (w.heap.size + 1 + 1) 0 (madeCells #[Value.int .u8 0] m).toList 5 Hg.out cs (by rw [Hcs.out]; simp) (fun _ => ⟨rfl, _, rfl, Hcp.out⟩) (by rw [Hcs.out]; simp [size_madeCells]) Hone.out w.heap.size w Hb0.out (by omega) ?_; intro w2 hg2 hb2))
    exact Hpost.out _ hg2 hb2

end Go.Proofs.Ytncbkgcblmohoaa
