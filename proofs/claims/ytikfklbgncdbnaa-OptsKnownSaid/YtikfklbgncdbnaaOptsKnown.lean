/-
  OptsKnown holds: the chapter's rows; ends. A closed statement: no condition.
-/
import Derived.Test.YtikfklbgncdbnaaOptWakes
import Derived.Test.YtikfklbgncdbnaaMade
namespace Go.Proofs.Ytikfklbgncdbnaa.optsKnown
set_option maxRecDepth 10000
open Go.ChangeShapes Go.WideShapes Go.ChangeAt Go.RowKit
set_option linter.unusedVariables false

theorem bad_told (A : Option Addr) (n c : Nat) (b : List Int) (x : Int) (w : World) (hp : parseO b = ([], x)) (hn : n ≤ 140737488355328) (hr : Rd w A n b) :
    Calls Try.prog 37 #[.int .i64 x, .slice A n c] w (Woke w) := by
  have Hp := Lib.hid (parse_to A n c b [] x w hp hn hr)
  clear hr
  go_enter Try.func37, Try.ntmps37
  go_wp2_with fail
  refine Hp.out.mono ?_
  rintro e w1 ⟨A1, m1, c1, os1, rfl, rfl, -, -, hb1⟩
  have Hb := Lib.hid hb1
  clear hb1
  go_wp2_with fail
  go_ret
  exact ⟨rfl, Hb.out⟩

def PutErr (x : Int) (w : World) (e : Ending) (w' : World) : Prop := e = .returned (.tuple #[.slice none 0 0, .int .i64 x]) ∧ Below w.heap.size w w'
theorem put_arg (A : Option Addr) (n c : Nat) (os : List OptV) (ls : List (Int × List Int)) (w : World) (hn : n ≤ 1000000) (hr : RdO w A n os) (hs : Reads w os ls) (h : ls.any badB = true) :
    Calls Try.prog 16 #[.slice A n c] w (PutErr 1 w) := (put_any A n c os ls w hn hr hs).mono fun e w' hp => by
  unfold PutO at hp; rw [if_pos h] at hp; exact hp
theorem put_long (A : Option Addr) (n c : Nat) (os : List OptV) (ls : List (Int × List Int)) (w : World) (hn : n ≤ 1000000) (hr : RdO w A n os) (hs : Reads w os ls) (h : ls.any badB = false) (h2 : 40 < (bytesO ls).length) :
    Calls Try.prog 16 #[.slice A n c] w (PutErr 3 w) := (put_any A n c os ls w hn hr hs).mono fun e w' hp => by
  unfold PutO at hp; rw [if_neg (by rw [h]; simp), if_pos h2] at hp; exact hp
def PutGot (b : List Int) (m : Nat) (w : World) (e : Ending) (w' : World) : Prop := ∃ A c, e = .returned (.tuple #[.slice A m c, .int .i64 0]) ∧ OwnB w' w.heap.size A m c b ∧ Below w.heap.size w w'
theorem put_got (A : Option Addr) (n c m : Nat) (os : List OptV) (ls : List (Int × List Int)) (b : List Int) (w : World) (hn : n ≤ 1000000) (hr : RdO w A n os) (hs : Reads w os ls) (h : ls.any badB = false) (h2 : (bytesO ls).length ≤ 40) (hb : padTo4 (bytesO ls) = b) (hm : b.length = m) :
    Calls Try.prog 16 #[.slice A n c] w (PutGot b m w) := (put_any A n c os ls w hn hr hs).mono fun e w' hp => by
  unfold PutO at hp; rw [if_neg (by rw [h]; simp), if_neg (by omega), hb, hm] at hp; exact hp

theorem madeK_lit : madeCells (Value.agg #[.int .u32 0, .int .u32 0]).cells 10 = #[.int .u32 0, .int .u32 0, .int .u32 0, .int .u32 0, .int .u32 0, .int .u32 0, .int .u32 0, .int .u32 0, .int .u32 0, .int .u32 0] := by kernel_rfl
theorem madeK_run (w : World) : (Instr.makeSlice 42 (.int .i64 5) (.int .i64 5)).run Try.prog w = .ok (.slice (some ⟨w.heap.size, 0, none⟩) 5 5) (w.alloc (.cells #[.int .u32 0, .int .u32 0, .int .u32 0, .int .u32 0, .int .u32 0, .int .u32 0, .int .u32 0, .int .u32 0, .int .u32 0, .int .u32 0] 55)) := by
  obtain ⟨i0, hi, hz0, hz1, hz2⟩ := info_parts infoBlk_o
  have h := run_make (P := Try.prog) w 42 55 i0 (.agg #[.int .u32 0, .int .u32 0]) Try.underlying42 hi hz0 .i64 .i64 5 5 (by omega) (by omega) (by rw [hz2]; omega) (by omega)
  rw [hz1] at h
  rw [← madeK_lit]
  simpa using h
theorem madeK_rd (w : World) (g : Nat) (hg : w.heap.size = g) (t : TypeId) : RdK (w.alloc (.cells #[.int .u32 0, .int .u32 0, .int .u32 0, .int .u32 0, .int .u32 0, .int .u32 0, .int .u32 0, .int .u32 0, .int .u32 0, .int .u32 0] t)) (some ⟨g, 0, none⟩) 5 (List.replicate 5 (0, 0)) := by
  subst hg
  refine ⟨rfl, fun p hp => by rw [List.eq_of_mem_replicate hp]; exact ⟨by decide, by decide⟩, fun _ => ⟨w.heap.size, 0, rfl, by simp, fun i hi => ?_⟩⟩
  simp only [World.cell?_alloc_mark]
  have : i = 0 ∨ i = 1 ∨ i = 2 ∨ i = 3 ∨ i = 4 := by omega
  rcases this with rfl | rfl | rfl | rfl | rfl <;> exact ⟨rfl, rfl⟩
theorem RdO.two (w : World) (g : Nat) (hg : w.heap.size = g) (t : TypeId) (fr : Nat × Nat) (kd kd' : Int) (A A' : Option Addr) (n c n' c' : Nat) : RdO (w.alloc (.cells #[.int .u8 kd, .slice A n c, .int .u8 kd', .slice A' n' c'] t fr)) (some ⟨g, 0, Option.none⟩) 2 [⟨kd, A, n, c⟩, ⟨kd', A', n', c'⟩] := by
  subst hg
  refine ⟨rfl, fun _ => ⟨w.heap.size, 0, rfl, by simp, fun i hi => ?_⟩⟩
  simp only [World.cell?_alloc_mark]
  have : i = 0 ∨ i = 1 := by omega
  rcases this with rfl | rfl <;> exact ⟨rfl, rfl⟩

theorem p1 : parseO [2, 1] = ([], 5) := by decide +kernel
theorem p2 : parseO [9] = ([], 4) := by decide +kernel
theorem p3 : parseO [9, 3] = ([], 4) := by decide +kernel
theorem p4 : parseO [0, 1] = ([], 5) := by decide +kernel
theorem p5 : parseO [] = ([], 0) := by decide +kernel
theorem p6 : parseO [1, 1, 0, 0] = ([], 0) := by decide +kernel
theorem p7 : parseO (List.replicate 41 0) = ([], 3) := by decide +kernel
theorem p8 : parseO (List.replicate 40 0) = ([], 0) := by decide +kernel
theorem q1 : padTo4 (bytesO [(9, List.replicate 38 0)]) = 9 :: 40 :: List.replicate 38 0 := by decide +kernel
theorem zeros_bytes (n : Nat) : ∀ x ∈ List.replicate n (0 : Int), 0 ≤ x ∧ x < 256 := fun x hx => by rw [List.eq_of_mem_replicate hx]; omega
theorem opt_row {w : World} {kd : Int} {A : Option Addr} {n c : Nat} {d : List Int} (hk : 0 ≤ kd ∧ kd < 256) (hc : n ≤ c ∧ c ≤ 1000000) (hr : Rd w A n d) : OptAt w ⟨kd, A, n, c⟩ (kd, d) := ⟨rfl, hk, hc.1, Nat.le_trans hc.2 (by simp [maxLen]), hr⟩
theorem opt_rowB {w : World} {o : Obj} {kd : Int} {A : Option Addr} {n c : Nat} {d : List Int} (hk : 0 ≤ kd ∧ kd < 256) (hc : n ≤ c ∧ c ≤ 1000000) (hr : Rd w A n d) : OptAt (w.alloc o) ⟨kd, A, n, c⟩ (kd, d) := opt_row hk hc (hr.below ((Below.refl _ _).alloc (Nat.le_refl _) _))

set_option maxHeartbeats 4000000 in
set_option maxRecDepth 100000 in
theorem walk (w : World) :
    Calls Try.prog 9 #[] w fun e w' => e = .returned (.bool true) ∧ Below w.heap.size w w' := by
  have k9 : ∀ w, (Instr.makeSlice 22 (.int .i64 9) (.int .i64 9)).run Try.prog w = .ok (.slice (some ⟨w.heap.size, 0, none⟩) 9 9) (w.alloc (.cells (madeCells (Value.int .u8 0).cells 9) 5)) := fun w => made_run 9 (by omega) w
  have k38 : ∀ w, (Instr.makeSlice 22 (.int .i64 38) (.int .i64 38)).run Try.prog w = .ok (.slice (some ⟨w.heap.size, 0, none⟩) 38 38) (w.alloc (.cells (madeCells (Value.int .u8 0).cells 38) 5)) := fun w => made_run 38 (by omega) w
  have k39 : ∀ w, (Instr.makeSlice 22 (.int .i64 39) (.int .i64 39)).run Try.prog w = .ok (.slice (some ⟨w.heap.size, 0, none⟩) 39 39) (w.alloc (.cells (madeCells (Value.int .u8 0).cells 39) 5)) := fun w => made_run 39 (by omega) w
  have k40 : ∀ w, (Instr.makeSlice 22 (.int .i64 40) (.int .i64 40)).run Try.prog w = .ok (.slice (some ⟨w.heap.size, 0, none⟩) 40 40) (w.alloc (.cells (madeCells (Value.int .u8 0).cells 40) 5)) := fun w => made_run 40 (by omega) w
  have k41 : ∀ w, (Instr.makeSlice 22 (.int .i64 41) (.int .i64 41)).run Try.prog w = .ok (.slice (some ⟨w.heap.size, 0, none⟩) 41 41) (w.alloc (.cells (madeCells (Value.int .u8 0).cells 41) 5)) := fun w => made_run 41 (by omega) w
  have kb := madeK_run
  go_enter Try.func9, Try.ntmps9
  go_wp2_with fail
  refine (awake_any _).mono ?_
  rintro e w1 ⟨rfl, hb⟩
  have HB := Lib.hid hb
  clear hb
  go_wp2_with fail
  refine (put_arg _ 1 1 [⟨1, none, 0, 0⟩] [(1, [])] _ (by omega) (RdO.one w1 _ rfl _ _ 1 none 0 0) ⟨opt_row (by decide) (by omega) (Rd.nil _ _), trivial⟩ (by decide)).mono ?_
  rintro e w2 ⟨rfl, hb⟩
  have HB := Lib.hid (below_trans HB.out (((Below.refl w1.heap.size w1).alloc (Nat.le_refl _) _).trans (hb.mono (by simp))))
  clear hb
  go_wp2_with fail
  refine (put_arg _ 1 1 [⟨0, none, 0, 0⟩] [(0, [])] _ (by omega) (RdO.one w2 _ rfl _ _ 0 none 0 0) ⟨opt_row (by decide) (by omega) (Rd.nil _ _), trivial⟩ (by decide)).mono ?_
  rintro e w3 ⟨rfl, hb⟩
  have HB := Lib.hid (below_trans HB.out (((Below.refl w2.heap.size w2).alloc (Nat.le_refl _) _).trans (hb.mono (by simp))))
  clear hb
  go_wp2_with fail
  refine (put_arg _ 1 1 [⟨9, some ⟨w3.heap.size, 0, none⟩, 39, 39⟩] [(9, List.replicate 39 0)] _ (by omega) (RdO.one _ _ (by simp) _ _ 9 _ 39 39) ⟨opt_rowB (by decide) (by omega) (made_lit w3 _ rfl 39), trivial⟩ (by decide +kernel)).mono ?_
  rintro e w4 ⟨rfl, hb⟩
  have HB := Lib.hid (below_trans HB.out ((((Below.refl w3.heap.size w3).alloc (Nat.le_refl _) _).alloc (by simp) _).trans (hb.mono (by simp <;> omega))))
  clear hb
  go_wp2_with fail
  refine (put_got _ 1 1 40 [⟨9, some ⟨w4.heap.size, 0, none⟩, 38, 38⟩] [(9, List.replicate 38 0)] _ _ (by omega) (RdO.one _ _ (by simp) _ _ 9 _ 38 38) ⟨opt_rowB (by decide) (by omega) (made_lit w4 _ rfl 38), trivial⟩ (by decide +kernel) (by decide +kernel) q1 (by simp)).mono ?_
  rintro e w5 ⟨A5, c5, rfl, -, hb⟩
  have HB := Lib.hid (below_trans HB.out ((((Below.refl w4.heap.size w4).alloc (Nat.le_refl _) _).alloc (by simp) _).trans (hb.mono (by simp <;> omega))))
  clear hb
  go_wp2_with fail
  refine (put_long _ 2 2 [⟨9, some ⟨w5.heap.size, 0, none⟩, 38, 38⟩, ⟨9, none, 0, 0⟩] [(9, List.replicate 38 0), (9, [])] _ (by omega) (RdO.two _ _ (by simp) _ _ 9 9 _ none 38 38 0 0) ⟨opt_rowB (by decide) (by omega) (made_lit w5 _ rfl 38), opt_row (by decide) (by omega) (Rd.nil _ _), trivial⟩ (by decide +kernel) (by decide +kernel)).mono ?_
  rintro e w6 ⟨rfl, hb⟩
  have HB := Lib.hid (below_trans HB.out ((((Below.refl w5.heap.size w5).alloc (Nat.le_refl _) _).alloc (by simp) _).trans (hb.mono (by simp <;> omega))))
  clear hb
  go_wp2_with fail
  refine (put_got none 0 0 0 [] [] [] _ (by omega) (RdO.nil _ _) trivial rfl (by decide) rfl rfl).mono ?_
  rintro e w7 ⟨A7, c7, rfl, -, hb⟩
  have HB := Lib.hid (below_trans HB.out hb)
  clear hb
  go_wp2_with fail
  refine (scale_any _ 1 1 [⟨3, some ⟨w7.heap.size, 0, none⟩, 1, 1⟩] [(3, [200])] _ (by omega) (RdO.one _ _ (by simp) _ _ 3 _ 1 1) ⟨opt_rowB (by decide) (by omega) (Rd.const_ w7 _ rfl [200] _ _ (by decide)), trivial⟩).mono ?_
  rintro e w8 ⟨rfl, hb⟩
  have HB := Lib.hid (below_trans HB.out ((((Below.refl w7.heap.size w7).alloc (Nat.le_refl _) _).alloc (by simp) _).trans (hb.mono (by simp <;> omega))))
  clear hb
  rw [show scaleL [(3, [200])] = (14, true) by decide +kernel]
  go_wp2_with fail
  refine (mss_any _ 1 1 [⟨2, some ⟨w8.heap.size, 0, none⟩, 1, 1⟩] [(2, [1])] _ (by omega) (RdO.one _ _ (by simp) _ _ 2 _ 1 1) ⟨opt_rowB (by decide) (by omega) (Rd.const_ w8 _ rfl [1] _ _ (by decide)), trivial⟩).mono ?_
  rintro e w9 ⟨rfl, hb⟩
  have HB := Lib.hid (below_trans HB.out ((((Below.refl w8.heap.size w8).alloc (Nat.le_refl _) _).alloc (by simp) _).trans (hb.mono (by simp <;> omega))))
  clear hb
  rw [show mssL [(2, [1])] = (0, false) by decide +kernel]
  go_wp2_with fail
  refine (withsacks_any _ 5 5 (List.replicate 5 (0, 0)) _ (by omega) (madeK_rd w9 _ rfl _)).mono ?_
  intro e w10 hws
  obtain ⟨rfl, hb⟩ : SacksBad 3 _ e w10 := by
    unfold WithSacksIs at hws
    rw [if_neg (by simp), if_pos (by simp)] at hws
    exact hws
  have HB := Lib.hid (below_trans HB.out (((Below.refl w9.heap.size w9).alloc (Nat.le_refl _) _).trans (hb.mono (by simp <;> omega))))
  clear hb hws
  go_wp2_with fail
  refine (withsacks_any none 0 0 [] _ (by omega) ⟨rfl, by simp, fun h => absurd h (by omega)⟩).mono ?_
  intro e w11 hws
  obtain ⟨rfl, hb⟩ : SacksBad 1 _ e w11 := by
    unfold WithSacksIs at hws
    rw [if_pos (show ([] : List (Int × Int)).length = 0 from rfl)] at hws
    exact hws
  have HB := Lib.hid (below_trans HB.out (((Below.refl w10.heap.size w10).alloc (Nat.le_refl _) _).trans (hb.mono (by simp <;> omega))))
  clear hb hws
  dsimp only [List.append] at *
  repeat (first | go_values | go_skip | go_guarded | go_step | go_upon | go_back)
  refine (bad_told _ 2 2 [2, 1] 5 _ p1 (by omega) (Rd.const_ (w11.alloc (.cells #[.int .u8 0, .slice none 0 0] 31)) _ (by simp) [2, 1] _ _ (by decide))).mono ?_
  rintro e w5 ⟨rfl, hb⟩
  have HB := Lib.hid (below_trans HB.out ((((Below.refl _ _).alloc (Nat.le_refl _) _).alloc (by simp) _).trans (hb.mono (by simp <;> omega))))
  clear hb
  dsimp only
  repeat (first | go_values | go_skip | go_guarded | go_step | go_upon | go_back)
  refine (bad_told _ 1 1 [9] 4 _ p2 (by omega) (Rd.const_ _ _ rfl [9] _ _ (by decide))).mono ?_
  rintro e w5 ⟨rfl, hb⟩
  have HB := Lib.hid (below_trans HB.out (((Below.refl _ _).alloc (Nat.le_refl _) _).trans (hb.mono (by simp <;> omega))))
  clear hb
  dsimp only
  repeat (first | go_values | go_skip | go_guarded | go_step | go_upon | go_back)
  refine (bad_told _ 2 2 [9, 3] 4 _ p3 (by omega) (Rd.const_ _ _ rfl [9, 3] _ _ (by decide))).mono ?_
  rintro e w5 ⟨rfl, hb⟩
  have HB := Lib.hid (below_trans HB.out (((Below.refl _ _).alloc (Nat.le_refl _) _).trans (hb.mono (by simp <;> omega))))
  clear hb
  dsimp only
  repeat (first | go_values | go_skip | go_guarded | go_step | go_upon | go_back)
  refine (bad_told _ 2 2 [0, 1] 5 _ p4 (by omega) (Rd.const_ _ _ rfl [0, 1] _ _ (by decide))).mono ?_
  rintro e w5 ⟨rfl, hb⟩
  have HB := Lib.hid (below_trans HB.out (((Below.refl _ _).alloc (Nat.le_refl _) _).trans (hb.mono (by simp <;> omega))))
  clear hb
  dsimp only
  repeat (first | go_values | go_skip | go_guarded | go_step | go_upon | go_back)
  refine (bad_told none 0 0 [] 0 _ p5 (by omega) (Rd.nil _ _)).mono ?_
  rintro e w5 ⟨rfl, hb⟩
  have HB := Lib.hid (below_trans HB.out hb)
  clear hb
  dsimp only
  repeat (first | go_values | go_skip | go_guarded | go_step | go_upon | go_back)
  refine (bad_told _ 4 4 [1, 1, 0, 0] 0 _ p6 (by omega) (Rd.const_ _ _ rfl [1, 1, 0, 0] _ _ (by decide))).mono ?_
  rintro e w5 ⟨rfl, hb⟩
  have HB := Lib.hid (below_trans HB.out (((Below.refl _ _).alloc (Nat.le_refl _) _).trans (hb.mono (by simp <;> omega))))
  clear hb
  dsimp only
  repeat (first | go_values | go_skip | go_guarded | go_step | go_upon | go_back)
  refine (bad_told _ 41 41 (List.replicate 41 0) 3 _ p7 (by omega) (made_lit _ _ rfl 41)).mono ?_
  rintro e w5 ⟨rfl, hb⟩
  have HB := Lib.hid (below_trans HB.out (((Below.refl _ _).alloc (Nat.le_refl _) _).trans (hb.mono (by simp <;> omega))))
  clear hb
  dsimp only
  repeat (first | go_values | go_skip | go_guarded | go_step | go_upon | go_back)
  refine (bad_told _ 40 40 (List.replicate 40 0) 0 _ p8 (by omega) (made_lit _ _ rfl 40)).mono ?_
  rintro e w5 ⟨rfl, hb⟩
  have HB := Lib.hid (below_trans HB.out (((Below.refl _ _).alloc (Nat.le_refl _) _).trans (hb.mono (by simp <;> omega))))
  clear hb
  dsimp only
  repeat (first | go_values | go_skip | go_guarded | go_step | go_upon | go_back)
  refine (sacks_any _ 1 1 0 [⟨5, some ⟨_, 0, none⟩, 9, 9⟩] [(5, List.replicate 9 0)] _ (by omega) (RdO.one _ _ (by simp) _ _ 5 _ 9 9) ⟨opt_rowB (by decide) (by omega) (made_lit _ _ rfl 9), trivial⟩ (by decide +kernel)).mono ?_
  rintro e w5 ⟨A5, c5, rfl, -, hb⟩
  have HB := Lib.hid (below_trans HB.out ((((Below.refl _ _).alloc (Nat.le_refl _) _).alloc (by simp) _).trans (hb.mono (by simp <;> omega))))
  clear hb
  dsimp only
  repeat (first | go_values | go_skip | go_guarded | go_step | go_upon | go_back)
  refine (sacks_any _ 1 1 0 [⟨5, some ⟨_, 0, none⟩, 40, 40⟩] [(5, List.replicate 40 0)] _ (by omega) (RdO.one _ _ (by simp) _ _ 5 _ 40 40) ⟨opt_rowB (by decide) (by omega) (made_lit _ _ rfl 40), trivial⟩ (by decide +kernel)).mono ?_
  rintro e w5 ⟨A5, c5, rfl, -, hb⟩
  have HB := Lib.hid (below_trans HB.out ((((Below.refl _ _).alloc (Nat.le_refl _) _).alloc (by simp) _).trans (hb.mono (by simp <;> omega))))
  clear hb
  dsimp only
  repeat (first | go_values | go_skip | go_guarded | go_step | go_upon | go_back)
  go_ret
  exact ⟨rfl, HB.out⟩
theorem own : ownKnob Try.prog.godebug = none := by kernel_rfl
theorem laidOut : laidOutB Try.prog = true := by kernel_rfl

set_option maxRecDepth 100000 in
theorem lifted (os : Os) (started : os.Started) (H : Type) (enc : TypeId × Value → H) :
    ReturnsInHanded {} Try.checked os 9 .any (Rows.optsKnownSpec.pre6 enc Try.prog Try.f9 Rows.optsKnownRow.domain false) (Rows.optsKnownSpec.post enc Try.prog Try.f9 false true false false) := by
  refine returnsInHanded_of_change (C := Try.checked) own started (by kernel_rfl) Try.func9
    (ChangeSpec.witness6 (enc := enc) (C := Try.checked) false ⟨#[], #[], []⟩ 8 (by kernel_rfl) (by kernel_rfl) (by kernel_rfl) (by kernel_rfl)) ?_
  intro W base args ds gs before hval0 hW hcnd _
  have hval : ∀ (j : Nat) t v, Try.f9.params[j]? = some t → args[j]? = some v → Value.okWide Try.prog W .any base t v := hval0
  have hW' := hW
  obtain ⟨p, q, hA0, hV, rfl, hfz, hnd⟩ := hW
  have hA : DataW.TrodAll enc Try.prog W 0 (fun _ => true) true Try.f9.params.toList args.toList ds p := hA0
  rw [Try.params9] at hA hval
  obtain ⟨rfl, rfl, rfl⟩ := trodAll_none hA
  obtain ⟨rfl, rfl⟩ := trodVars_none hV
  clear hA0 hval0
  refine (walk W ).mono fun e W' ⟨he, bel⟩ => ?_
  subst he
  exact ⟨_, rfl, _, _, _, [], _, [], hW', trodAll_mk1 (shut_bool Try.underlying4 _), trodAll_mk0, rfl, bel.frame _, fun h => by cases h⟩

theorem over : Rows.optsKnownRow.holds Try.pinned (OpenSpec.ofChange Rows.optsKnownSpec) :=
  OpenClaim.holds_of_wide 9 Try.f9 rfl rfl rfl rfl rfl rfl rfl ⟨rfl, rfl, rfl, rfl, rfl⟩ rfl rfl rfl rfl rfl (by kernel_rfl) Try.func9 (by kernel_rfl)
    (of_decide_eq_true (by kernel_rfl)) (by unfold Func.isWrapper; first | (rw [if_pos (by decide +kernel)]; kernel_rfl) | (rw [if_neg (by decide +kernel)]; exact ⟨rfl, rfl⟩))
    (fun os started H enc _ => lifted os started H enc)

/-- The statement. -/
theorem proved : Rows.OptsKnownSaid := over
#print axioms proved
end Go.Proofs.Ytikfklbgncdbnaa.optsKnown
