/-
  A buffer of the program's: Take.
-/
import Derived.Test.YtmmnicnebammhaaRmTell
import Derived.Test.YtmmnicnebammhaaTk
import Derived.Deep.AppendSrc
namespace Go.Proofs.Ytmmnicnebammhaa
set_option maxRecDepth 10000
open Go.RowKit
set_option linter.unusedSimpArgs false
set_option linter.unusedVariables false

def fTk (W : World) (g m N : Nat) (x : Int) : Prop := W.cell? ⟨g, 2, none⟩ = some (.int .i64 (N : Int)) ∧ W.cell? ⟨g, 4, none⟩ = some (.map (some m)) ∧ (Instr.lookup 57 (.map (some m)) (.int .i64 (N : Int)) false).run Try.prog W = .ok (.int .u8 x) W
theorem RMem.facts {W : World} {S : Nat → Prop} {g m N : Nat} {st x : Int} {M : BL} (h : RMem W S g m N st M) (hx : M[0]? = some (some x)) : fTk W g m N x := by
  refine ⟨h.k2, h.k4, ?_⟩
  have := h.map.look_b (e := (N : Int)) ((key_at N M 0).2 ((isB_get M 0).2 ⟨x, hx⟩))
  rw [this]
  unfold valR
  rw [Int.sub_self, List.getD, show ((0 : Int).toNat) = 0 from rfl, hx]
  rfl
theorem RMem.del {W : World} {S : Nat → Prop} {g m N : Nat} {st x : Int} {M : BL} (h : RMem W S g m N st M) (hx : M[0]? = some (some x)) (ty : TypeId) :
    ∃ W', (Builtin.delete_ #[57, 3] ty #[.map (some m), .int .i64 (N : Int)]).run Try.prog W = .ok (.tuple #[]) W' ∧ W'.cell? ⟨g, 2, none⟩ = some (.int .i64 (N : Int)) ∧ W'.cell? ⟨g, 4, none⟩ = some (.map (some m)) ∧ W'.frozen? ⟨g, 2, none⟩ = false ∧
      RMem (W'.setCell ⟨g, 2, none⟩ (.int .i64 ((N + 1 : Nat) : Int))) S g m (N + 1) st (M.drop 1) ∧ But S W (W'.setCell ⟨g, 2, none⟩ (.int .i64 ((N + 1 : Nat) : Int))) := by
  have hl := (List.getElem?_eq_some_iff.1 hx).1
  obtain ⟨W', h1, h2, h3⟩ := h.map.del_b (e := (N : Int)) ((key_at N M 0).2 ((isB_get M 0).2 ⟨x, hx⟩)) ty
  have hbox := h3.blk h.box h.gm
  have hB3 : But (fun k => k = g) W' (W'.setCell ⟨g, 2, none⟩ (.int .i64 ((N + 1 : Nat) : Int))) := (But.refl (fun k => k = g) W').setCell (p := ⟨g, 2, none⟩) rfl _
  have hrm := h.room
  refine ⟨W', h1, by rw [blk_cell hbox]; rfl, by rw [blk_cell hbox]; rfl, blk_free hbox 2, ⟨?_, ?_, h.stb, ?_, fun y hy => h.byte y (List.mem_of_mem_drop hy), h.sg, h.sm, fun k hk => hB3.lt (h3.lt (h.lt k hk))⟩, (h3.mono (fun k _ hk => by rw [show k = m from hk]; exact h.sm)).trans2 hB3 (fun k _ hk => by rw [show k = g from hk]; exact h.sg)⟩
  · have := heap_setCell_at hbox 2 (.int .i64 ((N + 1 : Nat) : Int))
    rw [List.length_drop, show N + 1 + (M.length - 1) = N + M.length by omega]
    exact this
  · refine (h2.but hB3 (fun e => h.gm e.symm)).congr (fun e => ?_) (fun e he => ?_)
    · unfold keyR
      constructor
      · rintro ⟨h4, i, h5, h6⟩
        refine ⟨i - 1, ?_, by omega⟩
        rw [isB_drop, show 1 + (i - 1) = i by omega]
        exact h5
      · rintro ⟨i, h5, h6⟩
        rw [isB_drop] at h5
        exact ⟨by omega, 1 + i, h5, by omega⟩
    · obtain ⟨h4, i, h5, h6⟩ := he
      unfold valR
      rw [List.getD, List.getD, List.getElem?_drop, show 1 + (e - ((N + 1 : Nat) : Int)).toNat = (e - (N : Int)).toNat by omega]
  · rw [List.length_drop]; omega
structure TakeS (w : World) (S : Nat → Prop) (g m N : Nat) (st : Int) (M : BL) (A : Option Addr) (j c : Nat) (l : List Int) (wr : World) : Prop where
  mem : RMem wr S g m N st M
  own : OwnB wr w.heap.size A j c l
  all : But S w wr
theorem made0_run (r : Nat) (hr : r ≤ 2147483647) (w : World) :
    (Instr.makeSlice 32 (.int .i64 0) (.int .i64 (r : Int))).run Try.prog w = .ok (.slice (some ⟨w.heap.size, 0, none⟩) 0 r) (w.alloc (.cells (madeCells (Value.int .u8 0).cells r) 5)) := by
  obtain ⟨i0, hi, hz0, hz1, hz2⟩ := info_parts info5
  have h := run_make (P := Try.prog) w 32 5 i0 (.int .u8 0) Try.underlying32 hi hz0 .i64 .i64 0 (r : Int) (by omega) (by omega) (by rw [hz2]; omega) (by omega)
  rw [hz1] at h
  simpa using h
set_option maxHeartbeats 1000000 in
theorem take_mem (S : Nat → Prop) (g m nx r : Nat) (st : Int) (L : BL) (l : List Int) (w : World) (h : RMem w S g m nx st L) (hr : readyB L = r) (hl : takeB L = l) :
    Calls Try.prog 13 #[.pointer (some ⟨g, 0, none⟩)] w (fun e w' => ∃ A c, e = .returned (.slice A r c) ∧ TakeS w S g m (nx + r) st (L.drop r) A r c l w') := by
  have k0 := h.k2
  have hrm := h.room
  have hrl := ready_le L
  rw [hr] at hrl
  have Hno := Lib.hid (bnone_no g w h.k0)
  have hbe := behind_any h 0 r (nx : Int) (by rfl) (by simpa using hr) (by omega)
  rw [Nat.zero_add] at hbe
  obtain ⟨B, eB⟩ : ∃ B, nx + r = B := ⟨_, rfl⟩
  rw [eB] at hbe
  have Hbe := Lib.hid hbe
  have hs : wrap64 ((B : Int) - (nx : Int)) = (r : Int) := by rw [IntWalk.wrap64_in _ (by omega)]; omega
  have hmk := made0_run r (by omega)
  have hlr : l.length = r := by rw [← hl, take_len, hr]
  have hget : ∀ j, j < r → ∃ x, L[j]? = some (some x) ∧ l[j]? = some x := fun j hj => by
    obtain ⟨x, hx⟩ := (isB_get L j).1 ((ready_is L).1 j (by omega))
    refine ⟨x, hx, ?_⟩
    rw [← hl]
    unfold takeB
    rw [List.getElem?_map, List.getElem?_take_of_lt (by omega), hx]
    rfl
  have Hget := Lib.hid hget
  have H := Lib.hid h
  have Hb := Lib.hid (And.intro hrm (And.intro hrl (And.intro eB hlr)))
  have HT := Lib.hid (show TakeS w S g m nx st L (some ⟨w.heap.size, 0, none⟩) 0 r [] (w.alloc (.cells (madeCells #[Value.int .u8 0] r) 5)) from ⟨h.on ((Below.refl _ _).alloc (Nat.le_refl _) _), OwnB.made (heap_alloc_new w _) (Nat.le_refl _) (Nat.le_trans (show r ≤ 16384 by omega) (by simp [maxLen])) (by simp [size_madeCells]), (But.refl _ _).alloc _⟩)
  clear h hrm hrl hr hl hbe eB hlr hget
  go_enter Try.func13, Try.ntmps13
  go_wp2_with (first | (go_at_call 23; refine Hno.out.mono ?_; rintro e w' ⟨rfl, rfl⟩) | (go_at_call 28; refine Hbe.out.mono ?_; rintro e w' ⟨rfl, rfl⟩))
  clear hs k0 hmk
  go_loopg [4] r (fun gk x4 wr => ∃ (j N c : Nat) (A : Option Addr), Hid (gk + j = r) ∧ Hid (N = nx + j) ∧ x4 = .slice A j c ∧ Hid (TakeS w S g m N st (L.drop j) A j c (l.take j) wr))
  case atStart => exact ⟨0, nx, r, _, Lib.hid (by omega), Lib.hid rfl, rfl, Lib.hid (by simpa using HT.out)⟩
  case round =>
    obtain ⟨j, N, c, A, hgk, hN, rfl, HS⟩ := hrel
    obtain rfl : gk = r - j := by have := hgk.out; omega
    have hjr : j ≤ r := by have := hgk.out; omega
    obtain ⟨hb1, hb2, hb3, hb4⟩ := Hb.out
    have hN2 := hN.out
    have k2 := HS.out.mem.k2
    clear hgk
    by_cases hj : j < r
    · have h1 : (N : Int) < (B : Int) := by omega
      have h2 : N < 16384 := by omega
      obtain ⟨x, hx, hxl⟩ := Hget.out j hj
      have hx0 : (L.drop j)[0]? = some (some x) := by rw [List.getElem?_drop]; exact hx
      have hxb : 0 ≤ x ∧ x < 256 := H.out.byte x (List.mem_of_getElem? hx)
      obtain ⟨w6, ew6⟩ : ∃ w6, wr.drew = w6 := ⟨_, rfl⟩
      have hB6 : But (fun _ => False) wr w6 := by rw [← ew6]; exact (But.refl _ _).drew
      have hm6 := HS.out.mem.but hB6 (fun _ _ h => h)
      have hsz := HS.out.all.size
      have hsz6 := hB6.size
      obtain ⟨wa, ewa⟩ : ∃ wa, w6.alloc (.cells #[.int .u8 x] 5) = wa := ⟨_, rfl⟩
      have hBa : But (fun _ => False) w6 wa := by rw [← ewa]; exact (But.refl _ _).alloc _
      have hma := hm6.but hBa (fun _ _ h => h)
      have hoa := (HS.out.own.but hB6 (fun _ _ h => h)).but hBa (fun _ _ h => h)
      have hra : Rd wa (some ⟨w6.heap.size, 0, none⟩) 1 [x] := by rw [← ewa]; exact Rd.one w6 x hxb
      obtain ⟨A2, c2, w7, hrun, ho7, hg7, hb7, hat⟩ := app_run wa 32 w.heap.size A (some ⟨w6.heap.size, 0, none⟩) j c 1 1 (l.take j) [x] hoa hra (by omega) (by have := hBa.size; omega)
      have hB7 : But (fun k => w.heap.size ≤ k) wa w7 := But.ofB hb7 (fun k hk _ => hk)
      have hm7 := hma.but hB7 (fun k hk hle => by have := H.out.lt k hk; omega)
      obtain ⟨w8, hdel, d2, d4, df, hm9, hB9⟩ := (show RMem w7.drew S g m N st (L.drop j) from hm7.drewN 1).del hx0 0
      have HF6 := Lib.hid (hm6.facts hx0)
      have HA := Lib.hid (show fTk (w6.alloc (.cells #[.int .u8 x] 5)) g m N x by rw [ewa]; exact hma.facts hx0)
      have H7 := Lib.hid (hm7.facts hx0)
      have H8 := Lib.hid (And.intro d2 d4)
      have HT2 := Lib.hid (show TakeS w S g m (N + 1) st (L.drop (j + 1)) A2 (j + 1) c2 (l.take (j + 1)) (w8.setCell ⟨g, 2, none⟩ (.int .i64 ((N + 1 : Nat) : Int))) from by
        have e1 : (L.drop j).drop 1 = L.drop (j + 1) := by rw [List.drop_drop]
        have e2 : l.take j ++ [x] = l.take (j + 1) := by
          rw [List.take_add_one, hxl]
          rfl
        rw [← e1, ← e2]
        refine ⟨hm9, (ho7.drewN 1).but hB9 (fun k hk hs => by have := H.out.lt k hs; omega), ?_⟩
        refine ((((HS.out.all.trans2 hB6 (fun _ _ h => h.elim)).trans2 hBa (fun _ _ h => h.elim)).trans2 hB7 (fun k hk hle => by omega)).drewN 1).trans hB9)
      have Hdel := Lib.hid hdel
      have Hrun := Lib.hid (show (Builtin.append_ #[32, 32] 32 #[.slice A j c, .slice (some ⟨w6.heap.size, 0, none⟩) 1 1]).run Try.prog (w6.alloc (.cells #[.int .u8 x] 5)) = .ok (.slice A2 (j + 1) c2) w7 by rw [ewa]; exact hrun)
      have Ew6 := Lib.hid ew6
      have Hd2 := Lib.hid (And.intro d2 df)
      clear hB6 hm6 hsz hsz6 hBa hma hoa hra hrun ho7 hg7 hb7 hat hB7 hm7 hdel d2 d4 df hm9 hB9 ewa ew6 hxb hx0 hx hxl hb1 hb2 hb3 hb4 hN2
      go_wp2_with fail
      refine wp_region_held_drew (S := fun w' => w'.cell? ⟨g, 2, none⟩ = some (.int .i64 (N : Int)) ∧ w'.cell? ⟨g, 4, none⟩ = some (.map (some m)) ∧ (Instr.lookup 57 (.map (some m)) (.int .i64 (N : Int)) false).run Try.prog w' = .ok (.int .u8 x) w') (by kernel_rfl) (by rw [Ew6.out]; exact HF6.out) (fun hHeld => ?_)
      rw [Ew6.out] at hHeld ⊢
      refine tk 0 ?_ rfl ?_ ?_
      rotate_left
      · intro w' hSw; (go_simp <;> (with_reducible rfl))
      try simp only [Act.put, putL]
      refine tk 1 ?_ rfl ?_ ?_
      rotate_left
      · intro w' hSw; (go_simp <;> (with_reducible rfl))
      try simp only [Act.put, putL]
      refine tk 2 ?_ rfl ?_ ?_
      rotate_left
      · intro w' hSw; (go_simp <;> (with_reducible rfl))
      try simp only [Act.put, putL]
      refine tk 3 ?_ rfl ?_ ?_
      rotate_left
      · intro w' hSw; (go_simp <;> (with_reducible rfl))
      try simp only [Act.put, putL]
      refine tk 4 ?_ rfl ?_ ?_
      rotate_left
      · intro w' hSw; (go_simp <;> (with_reducible rfl))
      try simp only [Act.put, putL]
      refine tk 5 ?_ rfl ?_ ?_
      rotate_left
      · intro w' hSw; (go_simp <;> (with_reducible rfl))
      try simp only [Act.put, putL]
      refine tk 6 ?_ rfl ?_ ?_
      rotate_left
      · intro w' hSw; (go_simp <;> (with_reducible rfl))
      try simp only [Act.put, putL]
      refine tk 7 ?_ rfl ?_ ?_
      rotate_left
      · intro w' hSw; (go_simp <;> (with_reducible rfl))
      try simp only [Act.put, putL]
      refine tk 8 ?_ rfl ?_ ?_
      rotate_left
      · intro w' hSw; (go_simp <;> (with_reducible rfl))
      try simp only [Act.put, putL]
      refine tk 9 ?_ rfl ?_ ?_
      rotate_left
      · intro w' hSw; (go_simp <;> (with_reducible rfl))
      try simp only [Act.put, putL]
      refine tkC 10 rfl (fun K hK => ?_)
      go_simp
      skip
      refine hK.out _ _ ?_ (fun hHeld => ?_)
      · exact HA.out
      clear hK K
      try simp only [Act.put, putL]
      refine tkC 11 rfl (fun K hK => ?_)
      refine step_appX rfl (.tmp 33) (.tmp 43) _ _ rfl rfl _ _ _ w7 rfl rfl Hrun.out ?_
      refine hK.out _ _ ?_ (fun hHeld => ?_)
      · exact H7.out
      clear hK K
      try simp only [Act.put, putL]
      refine tk 12 ?_ rfl ?_ ?_
      rotate_left
      · intro w' hSw; (go_simp <;> (with_reducible rfl))
      try simp only [Act.put, putL]
      refine wpAnyH_done (by kernel_rfl) ?_ _
      clear hHeld
      go_wp2_with fail
      refine wp_region_held_drew (S := fun w' => w'.cell? ⟨g, 2, none⟩ = some (.int .i64 (N : Int)) ∧ w'.cell? ⟨g, 4, none⟩ = some (.map (some m))) (by kernel_rfl) (by exact ⟨H7.out.1, H7.out.2.1⟩) (fun hHeld => ?_)
      have hdel := Hdel.out
      refine tk 0 ?_ rfl ?_ ?_
      rotate_left
      · intro w' hSw; (go_simp <;> (with_reducible rfl))
      try simp only [Act.put, putL]
      refine tk 1 ?_ rfl ?_ ?_
      rotate_left
      · intro w' hSw; (go_simp <;> (with_reducible rfl))
      try simp only [Act.put, putL]
      refine tk 2 ?_ rfl ?_ ?_
      rotate_left
      · intro w' hSw; (go_simp <;> (with_reducible rfl))
      try simp only [Act.put, putL]
      refine tk 3 ?_ rfl ?_ ?_
      rotate_left
      · intro w' hSw; (go_simp <;> (with_reducible rfl))
      try simp only [Act.put, putL]
      refine tk 4 ?_ rfl ?_ ?_
      rotate_left
      · intro w' hSw; (go_simp <;> (with_reducible rfl))
      try simp only [Act.put, putL]
      refine tk 5 ?_ rfl ?_ ?_
      rotate_left
      · intro w' hSw; (go_simp <;> (with_reducible rfl))
      try simp only [Act.put, putL]
      refine tk 6 ?_ rfl ?_ ?_
      rotate_left
      · intro w' hSw; (go_simp <;> (with_reducible rfl))
      try simp only [Act.put, putL]
      refine tk 7 ?_ rfl ?_ ?_
      rotate_left
      · intro w' hSw; (go_simp <;> (with_reducible rfl))
      try simp only [Act.put, putL]
      refine tkC 8 rfl (fun K hK => ?_)
      go_simp
      skip
      refine hK.out _ _ ?_ (fun hHeld => ?_)
      · exact H8.out
      clear hK K
      try simp only [Act.put, putL]
      refine wpAnyH_done (by kernel_rfl) ?_ _
      clear hHeld hdel
      obtain ⟨d2, df⟩ := Hd2.out
      go_wp2_with fail
      go_roundg (r - (j + 1))
      case measure => omega
      case rel => exact ⟨j + 1, N + 1, c2, A2, Lib.hid (by omega), Lib.hid (by have := hN.out; omega), by go_num, HT2⟩
    · obtain rfl : j = r := by omega
      have h1 : ¬ (N : Int) < (B : Int) := by omega
      have hfin : TakeS w S g m (nx + j) st (L.drop j) A j c l wr := by
        have := HS.out
        rw [List.take_of_length_le (by omega), hN2] at this
        exact this
      have Hfin := Lib.hid hfin
      clear hb1 hb2 hb3 hb4 hN2 hfin
      go_wp2_with fail
      go_ret
      exact ⟨A, c, rfl, Hfin.out⟩
end Go.Proofs.Ytmmnicnebammhaa
