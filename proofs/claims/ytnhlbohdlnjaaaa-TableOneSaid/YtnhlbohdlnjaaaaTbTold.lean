/-
  A table that is the caller's own: its calls, with what they tell and leave by name; culvertlaw13's of and awake.
-/
import Derived.Test.YtnhlbohdlnjaaaaTbFace
import Derived.RegionTactic
namespace Go.Proofs.Ytnhlbohdlnjaaaa
set_option maxRecDepth 10000
open Go.RowKit
set_option linter.unusedSimpArgs false
set_option linter.unusedVariables false

/-- A table all of whose blocks are from B on. -/
def TOwn (B : Nat) (w : World) (g : Nat) (M last : Int) (L : TL) : Prop := ∃ S, TAt w S g M last L ∧ ∀ k, S k → B ≤ k
def TIs (B g : Nat) (M last : Int) (L : TL) (v : Value) (w : World) (e : Ending) (w' : World) : Prop := e = .returned v ∧ TOwn B w' g M last L ∧ Below B w w'
theorem TOwn.below {B : Nat} {w w' : World} {g : Nat} {M last : Int} {L : TL} (h : TOwn B w g M last L) (hb : Below w.heap.size w w') : TOwn B w' g M last L := by
  obtain ⟨S, hp, hS⟩ := h
  exact ⟨S, hp.below hb, hS⟩
theorem TOwn.drewN {B : Nat} {w : World} {g : Nat} {M last : Int} {L : TL} (h : TOwn B w g M last L) (n : Nat) : TOwn B (w.drewN n) g M last L :=
  h.below (((But.refl (fun _ => False) w).drewN n).below (fun _ h => h.elim) (Nat.le_refl _))
theorem TOwn.mono {B B' : Nat} {w : World} {g : Nat} {M last : Int} {L : TL} (h : TOwn B w g M last L) (hB : B' ≤ B) : TOwn B' w g M last L := by
  obtain ⟨S, hp, hS⟩ := h
  exact ⟨S, hp, fun k hk => Nat.le_trans hB (hS k hk)⟩
theorem TOwn.ok {B : Nat} {w : World} {g : Nat} {M last : Int} {L : TL} (h : TOwn B w g M last L) : okF M last L := by
  obtain ⟨S, hp, hS⟩ := h
  exact hp.ok
theorem TIs.of {B g : Nat} {M last : Int} {L : TL} {v : Value} {w w' : World} {e : Ending} {S : Nat → Prop} (hS : ∀ k, S k → B ≤ k) (hB : B ≤ w.heap.size) (h : TDoes S g M last L v w e w') : TIs B g M last L v w e w' := by
  obtain ⟨rfl, S', hp, hb, hs⟩ := h
  exact ⟨rfl, ⟨S', hp, fun k hk => by rcases hs k hk with h1 | h1; exact hS k h1; omega⟩, hb.below hS hB⟩
theorem TIs.tells {B g : Nat} {M last : Int} {L : TL} {v : Value} {w w' : World} {e : Ending} (h : TOwn B w g M last L) (hB : B ≤ w.heap.size) (ht : TellsT v w e w') : TIs B g M last L v w e w' :=
  ⟨ht.1, h.below ht.2, ht.2.mono hB⟩
def TNew1 (M : Int) (w : World) (e : Ending) (w' : World) : Prop := ∃ g, e = .returned (.tuple #[.pointer (some ⟨g, 0, none⟩), .int .i64 0]) ∧ TOwn w.heap.size w' g M 0 [] ∧ Below w.heap.size w w'
theorem new_own13 (M : Int) (w : World) (h : 1 ≤ M ∧ M ≤ 1024) : Calls Try.prog 8 #[.int .i64 M] w (TNew1 M w) := by
  refine (new_t M w h).mono ?_
  rintro e w' ⟨g, S, rfl, h1, h2, h3⟩
  exact ⟨g, rfl, ⟨S, h1, h3⟩, h2⟩
section
variable (B g : Nat) (M last : Int) (L : TL) (w : World) (h : TOwn B w g M last L) (hB : B ≤ w.heap.size)
include h hB
theorem add_own (a b : Tu) (n wt er last' : Int) (L' : TL) (hl : last < 1000000) (hx : addF M last a b L = ((n, wt, er), L', last')) :
    Calls Try.prog 13 #[.pointer (some ⟨g, 0, none⟩), .agg #[.int .u8 a.pr, .int .u32 a.sr, .int .u32 a.ds, .int .u16 a.sp, .int .u16 a.dp], .agg #[.int .u8 b.pr, .int .u32 b.sr, .int .u32 b.ds, .int .u16 b.sp, .int .u16 b.dp]] w (TIs B g M last' L' (.tuple #[.int .u64 n, .int .u64 wt, .int .i64 er]) w) := by
  obtain ⟨S, h1, hS⟩ := h
  exact (add_t S g M last L w h1 a b n wt er last' L' hl hx).mono (fun e w' => TIs.of hS hB)
theorem touch_own (id er : Int) (L' : TL) (hx : touchR id L = (er, L')) : Calls Try.prog 11 #[.pointer (some ⟨g, 0, none⟩), .int .u64 id] w (TIs B g M last L' (.int .i64 er) w) := by
  obtain ⟨S, h1, hS⟩ := h
  exact (touch_t S g M last L w h1 id er L' hx).mono (fun e w' => TIs.of hS hB)
theorem ready_own (id er : Int) (L' : TL) (hx : readyR id L = (er, L')) : Calls Try.prog 18 #[.pointer (some ⟨g, 0, none⟩), .int .u64 id] w (TIs B g M last L' (.int .i64 er) w) := by
  obtain ⟨S, h1, hS⟩ := h
  exact (ready_t S g M last L w h1 id er L' hx).mono (fun e w' => TIs.of hS hB)
theorem drop_own (id er : Int) (L' : TL) (hx : dropR id L = (er, L')) : Calls Try.prog 20 #[.pointer (some ⟨g, 0, none⟩), .int .u64 id] w (TIs B g M last L' (.int .i64 er) w) := by
  obtain ⟨S, h1, hS⟩ := h
  exact (drop_t S g M last L w h1 id er L' hx).mono (fun e w' => TIs.of hS hB)
theorem lead_own (id er : Int) (x : Tu) (L' : TL) (hx : leadR id x L = (er, L')) : Calls Try.prog 15 #[.pointer (some ⟨g, 0, none⟩), .int .u64 id, .agg #[.int .u8 x.pr, .int .u32 x.sr, .int .u32 x.ds, .int .u16 x.sp, .int .u16 x.dp]] w (TIs B g M last L' (.int .i64 er) w) := by
  obtain ⟨S, h1, hS⟩ := h
  exact (lead_t S g M last L w h1 id er x L' hx).mono (fun e w' => TIs.of hS hB)
theorem inner_own (t : Tu) (id : Int) (is_ : Bool) (h1 : idOf (innF t L) = id) (h2 : isOf (innF t L) = is_) : Calls Try.prog 23 #[.pointer (some ⟨g, 0, none⟩), .agg #[.int .u8 t.pr, .int .u32 t.sr, .int .u32 t.ds, .int .u16 t.sp, .int .u16 t.dp]] w (TIs B g M last L (.tuple #[.int .u64 id, .bool is_]) w) := by
  have h' := h
  obtain ⟨S, hp, hS⟩ := h
  exact (inner_t S g M last L w hp t id is_ h1 h2).mono (fun e w' => TIs.tells h' hB)
theorem outer_own (t : Tu) (id : Int) (is_ : Bool) (h1 : idOf (outF t L) = id) (h2 : isOf (outF t L) = is_) : Calls Try.prog 25 #[.pointer (some ⟨g, 0, none⟩), .agg #[.int .u8 t.pr, .int .u32 t.sr, .int .u32 t.ds, .int .u16 t.sp, .int .u16 t.dp]] w (TIs B g M last L (.tuple #[.int .u64 id, .bool is_]) w) := by
  have h' := h
  obtain ⟨S, hp, hS⟩ := h
  exact (outer_t S g M last L w hp t id is_ h1 h2).mono (fun e w' => TIs.tells h' hB)
theorem flow_own (id : Int) (f : Fl) (is_ : Bool) (hx : flowR id L = (f, is_)) : Calls Try.prog 27 #[.pointer (some ⟨g, 0, none⟩), .int .u64 id] w (TIs B g M last L (.tuple #[.agg (flV f).toArray, .bool is_]) w) := by
  have h' := h
  obtain ⟨S, hp, hS⟩ := h
  exact (flow_t S g M last L w hp id f is_ hx).mono (fun e w' => TIs.tells h' hB)
omit hB in
theorem len_own13 (n : Nat) (hn : L.length = n) : Calls Try.prog 12 #[.pointer (some ⟨g, 0, none⟩)] w (JustIs (.int .i64 (n : Int)) w) := by
  obtain ⟨S, hp, hS⟩ := h
  exact len_t S g M last L w hp n hn
omit hB in
theorem all_own : Calls Try.prog 30 #[.pointer (some ⟨g, 0, none⟩)] w (CloneIsF L w) := by
  obtain ⟨S, hp, hS⟩ := h
  exact all_t S g M last L w hp
end
def ofT (n : Int) : Tu := ⟨0, n, 0, 0, 0⟩
theorem of_any (n : Int) (w : World) : Calls Try.prog 31 #[.int .u32 n] w (TellsT (.agg #[.int .u8 0, .int .u32 n, .int .u32 0, .int .u16 0, .int .u16 0]) w) := by
  have hb : Below w.heap.size w (w.alloc (.cells #[.int .u8 0, .int .u32 0, .int .u32 0, .int .u16 0, .int .u16 0] 37)) := (Below.refl _ _).alloc (Nat.le_refl _) _
  go_enter Try.func31, Try.ntmps31
  go_wp2_with fail
  refine bodyPost_ret (v := .agg #[.int .u8 0, .int .u32 n, .int .u32 0, .int .u16 0, .int .u16 0]) (by simp [results, Try.results31, go_sem]) rfl ?_
  exact ⟨rfl, by repeat (first | exact Below.refl _ _ | refine Below.drew ?_ | (refine Below.alloc ?_ (by simp <;> omega) _) | (refine Below.setCell ?_ (by simp <;> omega) _))⟩
set_option maxHeartbeats 2000000 in
theorem awake_any (w : World) : Calls Try.prog 10 #[] w (TellsT (.bool true) w) := by
  obtain ⟨L1, e1⟩ : ∃ L : TL, [⟨1, ofT 1, ofT 0, true⟩] = L := ⟨_, rfl⟩
  obtain ⟨L2, e2⟩ : ∃ L : TL, [⟨1, ofT 1, ofT 0, true⟩, ⟨2, ofT 2, ofT 0, true⟩] = L := ⟨_, rfl⟩
  obtain ⟨L3, e3⟩ : ∃ L : TL, [⟨2, ofT 2, ofT 0, true⟩, ⟨1, ofT 1, ofT 0, true⟩] = L := ⟨_, rfl⟩
  obtain ⟨L4, e4⟩ : ∃ L : TL, [⟨1, ofT 1, ofT 0, true⟩, ⟨3, ofT 3, ofT 0, true⟩] = L := ⟨_, rfl⟩
  obtain ⟨L5, e5⟩ : ∃ L : TL, [⟨1, ofT 1, ofT 0, false⟩, ⟨3, ofT 3, ofT 0, true⟩] = L := ⟨_, rfl⟩
  obtain ⟨L6, e6⟩ : ∃ L : TL, [⟨1, ofT 1, ofT 0, false⟩, ⟨3, ofT 3, ofT 0, false⟩] = L := ⟨_, rfl⟩
  have v1 : addF 2 0 (ofT 1) (ofT 0) [] = ((1, 0, 0), L1, 1) := by subst e1; kernel_rfl
  have v2 : addF 2 1 (ofT 2) (ofT 0) L1 = ((2, 0, 0), L2, 2) := by subst e1; subst e2; kernel_rfl
  have v3 : addF 2 2 (ofT 1) (ofT 0) L2 = ((0, 0, 9), L2, 2) := by subst e2; kernel_rfl
  have v4 : touchR 1 L2 = (0, L3) := by subst e2; subst e3; kernel_rfl
  have v5 : addF 2 2 (ofT 3) (ofT 0) L3 = ((3, 2, 0), L4, 3) := by subst e3; subst e4; kernel_rfl
  have v6 : readyR 1 L4 = (0, L5) := by subst e4; subst e5; kernel_rfl
  have v7 : readyR 3 L5 = (0, L6) := by subst e5; subst e6; kernel_rfl
  have v8 : addF 2 3 (ofT 2) (ofT 0) L6 = ((0, 0, 7), L6, 3) := by subst e6; kernel_rfl
  obtain ⟨B, eB⟩ : ∃ B, w.heap.size = B := ⟨_, rfl⟩
  have Hn := Lib.hid (new_own13 2 w (by omega))
  unfold TNew1 at Hn
  rw [eB] at Hn
  have HsB := Lib.hid (show B ≤ w.heap.size by omega)
  have EB := Lib.hid eB
  clear e1 e2 e3 e4 e5 e6 eB
  go_enter Try.func10, Try.ntmps10
  go_wp2_with fail
  refine Hn.out.mono ?_
  rintro e w1 ⟨g, rfl, hp, hb⟩
  have HP := Lib.hid hp
  have HB := Lib.hid hb
  have HS := Lib.hid (Nat.le_trans HsB.out hb.size)
  have T1 := Lib.hid (fun W h hB => add_own B g 2 0 [] W h hB (ofT 1) (ofT 0) _ _ _ _ _ (by omega) v1)
  have T2 := Lib.hid (fun W h hB => add_own B g 2 1 L1 W h hB (ofT 2) (ofT 0) _ _ _ _ _ (by omega) v2)
  have T3 := Lib.hid (fun W h hB => add_own B g 2 2 L2 W h hB (ofT 1) (ofT 0) _ _ _ _ _ (by omega) v3)
  have T4 := Lib.hid (fun W h hB => touch_own B g 2 2 L2 W h hB 1 _ _ v4)
  have T5 := Lib.hid (fun W h hB => add_own B g 2 2 L3 W h hB (ofT 3) (ofT 0) _ _ _ _ _ (by omega) v5)
  have T6 := Lib.hid (fun W h hB => ready_own B g 2 3 L4 W h hB 1 _ _ v6)
  have T7 := Lib.hid (fun W h hB => ready_own B g 2 3 L5 W h hB 3 _ _ v7)
  have T8 := Lib.hid (fun W h hB => add_own B g 2 3 L6 W h hB (ofT 2) (ofT 0) _ _ _ _ _ (by omega) v8)
  clear v1 v2 v3 v4 v5 v6 v7 v8 hp hb Hn
  go_wp2_with fail
  refine (of_any _ _).mono ?_
  rintro e w2 ⟨rfl, hb⟩
  have hp := HP.out.below hb
  have hb := hb.mono HS.out
  have HP2 := Lib.hid hp
  have HB2 := Lib.hid (HB.out.trans hb)
  have HS2 := Lib.hid (Nat.le_trans HS.out hb.size)
  clear hp hb HP HB HS
  have HP := HP2
  have HB := HB2
  have HS := HS2
  clear HP2 HB2 HS2
  go_wp2_with fail
  refine (of_any _ _).mono ?_
  rintro e w3 ⟨rfl, hb⟩
  have hp := HP.out.below hb
  have hb := hb.mono HS.out
  have HP2 := Lib.hid hp
  have HB2 := Lib.hid (HB.out.trans hb)
  have HS2 := Lib.hid (Nat.le_trans HS.out hb.size)
  clear hp hb HP HB HS
  have HP := HP2
  have HB := HB2
  have HS := HS2
  clear HP2 HB2 HS2
  go_wp2_with fail
  refine (T1.out _ HP.out HS.out).mono ?_
  rintro e w4 ⟨rfl, hp, hb⟩
  have HP2 := Lib.hid hp
  have HB2 := Lib.hid (HB.out.trans hb)
  have HS2 := Lib.hid (Nat.le_trans HS.out hb.size)
  clear hp hb HP HB HS
  have HP := HP2
  have HB := HB2
  have HS := HS2
  clear HP2 HB2 HS2
  go_wp2_with fail
  refine (of_any _ _).mono ?_
  rintro e w5 ⟨rfl, hb⟩
  have hp := HP.out.below hb
  have hb := hb.mono HS.out
  have HP2 := Lib.hid hp
  have HB2 := Lib.hid (HB.out.trans hb)
  have HS2 := Lib.hid (Nat.le_trans HS.out hb.size)
  clear hp hb HP HB HS
  have HP := HP2
  have HB := HB2
  have HS := HS2
  clear HP2 HB2 HS2
  go_wp2_with fail
  refine (of_any _ _).mono ?_
  rintro e w6 ⟨rfl, hb⟩
  have hp := HP.out.below hb
  have hb := hb.mono HS.out
  have HP2 := Lib.hid hp
  have HB2 := Lib.hid (HB.out.trans hb)
  have HS2 := Lib.hid (Nat.le_trans HS.out hb.size)
  clear hp hb HP HB HS
  have HP := HP2
  have HB := HB2
  have HS := HS2
  clear HP2 HB2 HS2
  go_wp2_with fail
  refine (T2.out _ HP.out HS.out).mono ?_
  rintro e w7 ⟨rfl, hp, hb⟩
  have HP2 := Lib.hid hp
  have HB2 := Lib.hid (HB.out.trans hb)
  have HS2 := Lib.hid (Nat.le_trans HS.out hb.size)
  clear hp hb HP HB HS
  have HP := HP2
  have HB := HB2
  have HS := HS2
  clear HP2 HB2 HS2
  go_wp2_with fail
  refine (of_any _ _).mono ?_
  rintro e w8 ⟨rfl, hb⟩
  have hp := HP.out.below hb
  have hb := hb.mono HS.out
  have HP2 := Lib.hid hp
  have HB2 := Lib.hid (HB.out.trans hb)
  have HS2 := Lib.hid (Nat.le_trans HS.out hb.size)
  clear hp hb HP HB HS
  have HP := HP2
  have HB := HB2
  have HS := HS2
  clear HP2 HB2 HS2
  go_wp2_with fail
  refine (of_any _ _).mono ?_
  rintro e w9 ⟨rfl, hb⟩
  have hp := HP.out.below hb
  have hb := hb.mono HS.out
  have HP2 := Lib.hid hp
  have HB2 := Lib.hid (HB.out.trans hb)
  have HS2 := Lib.hid (Nat.le_trans HS.out hb.size)
  clear hp hb HP HB HS
  have HP := HP2
  have HB := HB2
  have HS := HS2
  clear HP2 HB2 HS2
  go_wp2_with fail
  refine (T3.out _ HP.out HS.out).mono ?_
  rintro e w10 ⟨rfl, hp, hb⟩
  have HP2 := Lib.hid hp
  have HB2 := Lib.hid (HB.out.trans hb)
  have HS2 := Lib.hid (Nat.le_trans HS.out hb.size)
  clear hp hb HP HB HS
  have HP := HP2
  have HB := HB2
  have HS := HS2
  clear HP2 HB2 HS2
  go_wp2_with fail
  refine (T4.out _ HP.out HS.out).mono ?_
  rintro e w11 ⟨rfl, hp, hb⟩
  have HP2 := Lib.hid hp
  have HB2 := Lib.hid (HB.out.trans hb)
  have HS2 := Lib.hid (Nat.le_trans HS.out hb.size)
  clear hp hb HP HB HS
  have HP := HP2
  have HB := HB2
  have HS := HS2
  clear HP2 HB2 HS2
  go_wp2_with fail
  refine (of_any _ _).mono ?_
  rintro e w12 ⟨rfl, hb⟩
  have hp := HP.out.below hb
  have hb := hb.mono HS.out
  have HP2 := Lib.hid hp
  have HB2 := Lib.hid (HB.out.trans hb)
  have HS2 := Lib.hid (Nat.le_trans HS.out hb.size)
  clear hp hb HP HB HS
  have HP := HP2
  have HB := HB2
  have HS := HS2
  clear HP2 HB2 HS2
  go_wp2_with fail
  refine (of_any _ _).mono ?_
  rintro e w13 ⟨rfl, hb⟩
  have hp := HP.out.below hb
  have hb := hb.mono HS.out
  have HP2 := Lib.hid hp
  have HB2 := Lib.hid (HB.out.trans hb)
  have HS2 := Lib.hid (Nat.le_trans HS.out hb.size)
  clear hp hb HP HB HS
  have HP := HP2
  have HB := HB2
  have HS := HS2
  clear HP2 HB2 HS2
  go_wp2_with fail
  refine (T5.out _ HP.out HS.out).mono ?_
  rintro e w14 ⟨rfl, hp, hb⟩
  have HP2 := Lib.hid hp
  have HB2 := Lib.hid (HB.out.trans hb)
  have HS2 := Lib.hid (Nat.le_trans HS.out hb.size)
  clear hp hb HP HB HS
  have HP := HP2
  have HB := HB2
  have HS := HS2
  clear HP2 HB2 HS2
  go_wp2_with fail
  refine (T6.out _ HP.out HS.out).mono ?_
  rintro e w15 ⟨rfl, hp, hb⟩
  have HP2 := Lib.hid hp
  have HB2 := Lib.hid (HB.out.trans hb)
  have HS2 := Lib.hid (Nat.le_trans HS.out hb.size)
  clear hp hb HP HB HS
  have HP := HP2
  have HB := HB2
  have HS := HS2
  clear HP2 HB2 HS2
  go_wp2_with fail
  refine (T7.out _ HP.out HS.out).mono ?_
  rintro e w16 ⟨rfl, hp, hb⟩
  have HP2 := Lib.hid hp
  have HB2 := Lib.hid (HB.out.trans hb)
  have HS2 := Lib.hid (Nat.le_trans HS.out hb.size)
  clear hp hb HP HB HS
  have HP := HP2
  have HB := HB2
  have HS := HS2
  clear HP2 HB2 HS2
  go_wp2_with fail
  refine (of_any _ _).mono ?_
  rintro e w17 ⟨rfl, hb⟩
  have hp := HP.out.below hb
  have hb := hb.mono HS.out
  have HP2 := Lib.hid hp
  have HB2 := Lib.hid (HB.out.trans hb)
  have HS2 := Lib.hid (Nat.le_trans HS.out hb.size)
  clear hp hb HP HB HS
  have HP := HP2
  have HB := HB2
  have HS := HS2
  clear HP2 HB2 HS2
  go_wp2_with fail
  refine (of_any _ _).mono ?_
  rintro e w18 ⟨rfl, hb⟩
  have hp := HP.out.below hb
  have hb := hb.mono HS.out
  have HP2 := Lib.hid hp
  have HB2 := Lib.hid (HB.out.trans hb)
  have HS2 := Lib.hid (Nat.le_trans HS.out hb.size)
  clear hp hb HP HB HS
  have HP := HP2
  have HB := HB2
  have HS := HS2
  clear HP2 HB2 HS2
  go_wp2_with fail
  refine (T8.out _ HP.out HS.out).mono ?_
  rintro e w19 ⟨rfl, hp, hb⟩
  have HP2 := Lib.hid hp
  have HB2 := Lib.hid (HB.out.trans hb)
  have HS2 := Lib.hid (Nat.le_trans HS.out hb.size)
  clear hp hb HP HB HS
  have HP := HP2
  have HB := HB2
  have HS := HS2
  clear HP2 HB2 HS2
  go_wp2_with fail
  go_ret
  exact ⟨rfl, by rw [EB.out]; exact HB.out⟩
end Go.Proofs.Ytnhlbohdlnjaaaa
