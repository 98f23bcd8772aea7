/-
  What ReasmStream's walk holds on to: which places have been put (a row of bools), what has been taken.
-/
import Derived.Test.YtmmnicnebammhaaRmStep
import Derived.Test.YtmmnicnebammhaaRmHalfP
namespace Go.Proofs.Ytmmnicnebammhaa
set_option maxRecDepth 10000
open Go.RowKit
set_option linter.unusedSimpArgs false
set_option linter.unusedVariables false
variable {BAt : BA}

theorem info_bool : (Try.prog.info? 4).map (fun i => (i.zero, i.size, i.bytes)) = some (some (.bool false), 1, 1) := by kernel_rfl
theorem madeB_run (m : Nat) (hm : m ≤ 2147483647) (w : World) :
    (Instr.makeSlice 35 (.int .i64 (m : Int)) (.int .i64 (m : Int))).run Try.prog w = .ok (.slice (some ⟨w.heap.size, 0, none⟩) m m) (w.alloc (.cells (madeCells (Value.bool false).cells m) 4)) := by
  obtain ⟨i0, hi, hz0, hz1, hz2⟩ := info_parts info_bool
  have h := run_make (P := Try.prog) w 35 4 i0 (.bool false) Try.underlying35 hi hz0 .i64 .i64 (m : Int) (m : Int) (by omega) (by omega) (by rw [hz2]; omega) (by omega)
  rw [hz1] at h
  simpa using h
/-- A row of bools. -/
def BoolAt (w : World) (g n : Nat) (P : Nat → Bool) : Prop := ∃ C : Array Value, w.heap[g]? = some (.cells C 4 (0, 0)) ∧ C.size = n ∧ ∀ p, p < n → C[p]? = some (.bool (P p))
theorem BoolAt.made (w : World) (g m : Nat) (hg : w.heap.size = g) : BoolAt (w.alloc (.cells (madeCells #[Value.bool false] m) 4)) g m (fun _ => false) := by
  subst hg
  refine ⟨_, heap_alloc_new w _, ?_, fun p hp => ?_⟩
  · rw [← Array.length_toList, toList_madeCells_one]
    simp
  · rw [← Array.getElem?_toList, toList_madeCells_one]
    simp [hp]
theorem BoolAt.lt {w : World} {g n : Nat} {P : Nat → Bool} (h : BoolAt w g n P) : g < w.heap.size := by
  obtain ⟨C, hC, _⟩ := h
  exact lt_of_block hC
theorem BoolAt.but {S : Nat → Prop} {w w' : World} {g n : Nat} {P : Nat → Bool} (h : BoolAt w g n P) (hb : But S w w') (hS : ¬ S g) : BoolAt w' g n P := by
  obtain ⟨C, hC, hr⟩ := h
  exact ⟨C, hb.blk hC hS, hr⟩
theorem BoolAt.ext {w : World} {g n : Nat} {P Q : Nat → Bool} (h : BoolAt w g n P) (he : ∀ p, p < n → P p = Q p) : BoolAt w g n Q := by
  obtain ⟨C, hC, hs, hc⟩ := h
  exact ⟨C, hC, hs, fun p hp => by rw [← he p hp]; exact hc p hp⟩
theorem BoolAt.index {w : World} {g n : Nat} {P : Nat → Bool} (h : BoolAt w g n P) {p : Nat} (hp : p < n) :
    (∀ W : World, (Instr.indexAt 35 (.slice (some ⟨g, 0, none⟩) n n) (.int .i64 (p : Int))).run Try.prog W = .ok (.pointer (some ⟨g, p, none⟩)) W) ∧ w.cell? ⟨g, p, none⟩ = some (.bool (P p)) ∧ w.frozen? ⟨g, p, none⟩ = false := by
  obtain ⟨C, hC, hs, hc⟩ := h
  have k0 : (0 : Int) ≤ (p : Int) := by omega
  have k1 : (p : Int) < (n : Int) := by omega
  exact ⟨fun W => by go_simp, by rw [blk_cell hC]; exact hc p hp, blk_free hC p⟩
theorem BoolAt.set_ {w : World} {g n : Nat} {P : Nat → Bool} (h : BoolAt w g n P) {p : Nat} (hp : p < n) : BoolAt (w.setCell ⟨g, p, none⟩ (.bool true)) g n (fun x => P x || decide (x = p)) := by
  obtain ⟨C, hC, hs, hc⟩ := h
  refine ⟨_, heap_setCell_at hC _ _, by simpa using hs, fun x hx => ?_⟩
  by_cases e : p = x
  · subst e
    rw [Array.getElem?_setIfInBounds_self_of_lt (by omega)]
    simp
  · have e2 : ¬ x = p := fun h => e h.symm
    rw [Array.getElem?_setIfInBounds_ne e, hc x hx]
    simp [e2]
/-- What stays as it is: all ahead of the base, the row of bools, what has been taken. -/
def ZS (w0 : World) (zp : Nat) (v : Value) : Nat → Prop := fun k => k < w0.heap.size ∨ k = zp ∨ v.ownBlock = some k
structure Str (BAt : BA) (w0 : World) (zp n g : Nat) (at_ : Int) (L : BL) (P : Nat → Bool) (A : Option Addr) (no co : Nat) (l : List Int) (w : World) : Prop where
  at18 : At18 BAt (ZS w0 zp (.slice A no co)) w0 [(g, at_, L)] w
  put : BoolAt w zp n P
  out : OwnB w w0.heap.size A no co l
  zp : w0.heap.size ≤ zp
theorem own_ne {w : World} {zp n B no co : Nat} {P : Nat → Bool} {A : Option Addr} {l : List Int} (h : BoolAt w zp n P) (ho : OwnB w B A no co l) : ¬ (Value.slice A no co).ownBlock = some zp := by
  intro e
  obtain ⟨C, hC, _⟩ := h
  rcases ho.2 with ⟨e1, _⟩ | ⟨g, cap, cur, e1, hB, hg, _⟩
  · rw [e1] at e; cases e
  · rw [e1] at e
    injection e with e
    subst e
    rw [hC] at hg
    injection hg with hg
    injection hg with _ e3
    revert e3
    decide
section
variable {w0 w w' : World} {zp n g : Nat} {at_ : Int} {L : BL} {P : Nat → Bool} {A : Option Addr} {no co : Nat} {l : List Int}
theorem Str.zi (h : Str BAt w0 zp n g at_ L P A no co l w) : ∀ k, ZS w0 zp (.slice A no co) k → k < w.heap.size := h.at18.many.1
/-- A call of the buffer. -/
theorem Str.call {at2 : Int} {L2 : BL} (h : Str BAt w0 zp n g at_ L P A no co l w) (h1 : At18 BAt (ZS w0 zp (.slice A no co)) w0 [(g, at2, L2)] w') (hb : But (fun k => ¬ ZS w0 zp (.slice A no co) k) w w') : Str BAt w0 zp n g at2 L2 P A no co l w' :=
  ⟨h1, h.put.but hb (fun hk => hk (.inr (.inl rfl))), by
    refine ⟨h.out.1, ?_⟩
    rcases h.out.2 with h0 | ⟨g2, cap, cur, e, hB, hc, hrest⟩
    · exact .inl h0
    · exact .inr ⟨g2, cap, cur, e, hB, hb.blk hc (fun hk => hk (.inr (.inr (by rw [e]; rfl)))), hrest⟩, h.zp⟩
theorem Str.below (F : BFace BAt) (h : Str BAt w0 zp n g at_ L P A no co l w) (hb : Below w.heap.size w w') : Str BAt w0 zp n g at_ L P A no co l w' :=
  ⟨h.at18.below F hb, h.put.but (But.of (S := fun _ => False) hb) (fun h => h), h.out.on hb, h.zp⟩
/-- A place more is put. -/
theorem Str.set_ (F : BFace BAt) (h : Str BAt w0 zp n g at_ L P A no co l w) {p : Nat} (hp : p < n) : Str BAt w0 zp n g at_ L (fun x => P x || decide (x = p)) A no co l (w.setCell ⟨zp, p, none⟩ (.bool true)) := by
  have hb : But (fun k => k = zp) w (w.setCell ⟨zp, p, none⟩ (.bool true)) := (But.refl (fun k => k = zp) w).setCell (p := ⟨zp, p, none⟩) rfl _
  refine ⟨h.at18.but F hb (fun k hk => .inl (.inr (.inl hk))) (fun k hk => by rw [hk]; exact h.zp), h.put.set_ hp, ?_, h.zp⟩
  have hne := own_ne h.put h.out
  refine ⟨h.out.1, ?_⟩
  rcases h.out.2 with h0 | ⟨g2, cap, cur, e, hB, hc, hrest⟩
  · exact .inl h0
  · refine .inr ⟨g2, cap, cur, e, hB, hb.blk hc (fun hk => hne ?_), hrest⟩
    rw [e, hk]
    rfl
/-- What a Take tells is appended. -/
theorem Str.app (F : BFace BAt) {Az : Option Addr} {nz cz : Nat} {lz : List Int} (h : Str BAt w0 zp n g at_ L P A no co l w) (hr : Rd w Az nz lz) (hs : no + nz ≤ 140737488355328) (ty : TypeId) :
    ∃ A2 c2 w', (Builtin.append_ #[32, 32] ty #[.slice A no co, .slice Az nz cz]).run Try.prog w = .ok (.slice A2 (no + nz) c2) w' ∧ Str BAt w0 zp n g at_ L P A2 (no + nz) c2 (l ++ lz) w' := by
  obtain ⟨A2, c2, w', hrun, ho, hg, hbel, hat⟩ := app_run w ty w0.heap.size A Az no co nz cz l lz h.out hr hs h.at18.base.size
  have hb : But (fun k => (Value.slice A no co).ownBlock = some k) w w' := ⟨hg.os, hg.tape, hg.output, hg.size, fun k hk hn => hg.block k hk (fun e => hn e.symm)⟩
  have hzp := h.put.lt
  refine ⟨A2, c2, w', hrun, h.at18.more F hb (fun k hk => .inl (.inr (.inr hk))) (fun k hk => ?_) (fun k hk => ?_) (fun k hk => .inl hk), h.put.but hb (own_ne h.put h.out), ho, h.zp⟩
  · rcases h.out.2 with ⟨e1, _⟩ | ⟨g2, cap, cur, e1, hB, _⟩
    · rw [e1] at hk; cases hk
    · rw [e1] at hk
      have : g2 = k := by simpa [Value.ownBlock] using hk
      omega
  · rcases hk with hk | hk | hk
    · exact ⟨.inl (.inl hk), Nat.lt_of_lt_of_le hk (Nat.le_trans h.at18.base.size hb.size)⟩
    · subst hk
      exact ⟨.inl (.inr (.inl rfl)), hb.lt hzp⟩
    · have hlt : k < w'.heap.size := by
        rcases ho.2 with ⟨e1, _⟩ | ⟨g2, cap, cur, e1, hB, hg2, _⟩
        · rw [e1] at hk; cases hk
        · rw [e1] at hk
          injection hk with hk
          subst hk
          exact lt_of_block hg2
      rcases hat with e | e
      · rw [e] at hk
        exact ⟨.inl (.inr (.inr hk)), hlt⟩
      · rw [e] at hk
        injection hk with hk
        exact ⟨.inr (by omega), hlt⟩
def StrDo (BAt : BA) (w0 : World) (zp n g : Nat) (at_ : Int) (L : BL) (P : Nat → Bool) (A : Option Addr) (no co : Nat) (l : List Int) (v : Value) (e : Ending) (w' : World) : Prop := e = .returned v ∧ Str BAt w0 zp n g at_ L P A no co l w'
def StrTk (BAt : BA) (w0 : World) (zp n g : Nat) (at_ : Int) (L : BL) (P : Nat → Bool) (A : Option Addr) (no co : Nat) (l lz : List Int) (e : Ending) (w' : World) : Prop := ∃ Az nz cz, e = .returned (.slice Az nz cz) ∧ lz.length = nz ∧ OwnB w' 0 Az nz cz lz ∧ Str BAt w0 zp n g at_ L P A no co l w'
def StrHd (BAt : BA) (w0 : World) (zp n g : Nat) (at_ : Int) (L : BL) (P : Nat → Bool) (A : Option Addr) (no co : Nat) (l : List Int) (k : Nat) (e : Ending) (w' : World) : Prop := ∃ Az cz, e = .returned (.slice Az k cz) ∧ Str BAt w0 zp n g at_ L P A no co l w'
theorem Str.put_ (F : BFace BAt) (h : Str BAt w0 zp n g at_ L P A no co l w) (a : Int) (A2 : Option Addr) (n2 c2 : Nat) (l2 : List Int) (d : Int) (L' : BL) (m : Nat) (x : Int) (ha : 0 ≤ a ∧ a < 4294967296) (hr : RdC w0 A2 n2 c2 l2) (hn : n2 ≤ 100000)
    (hd : diffB a at_ = d) (hL : putQ d l2 L = L') (hx : putE d l2 L = x) (hm : putN d l2 L = m) :
    Calls Try.prog 11 #[.pointer (some ⟨g, 0, none⟩), .int .u32 a, .slice A2 n2 c2] w (StrDo BAt w0 zp n g at_ L' P A no co l (.tuple #[.int .i64 (m : Int), .int .i64 x])) :=
  (sput F _ 0 g at_ L _ [(g, at_, L')] w0 w h.at18 rfl a A2 n2 c2 l2 d L' m x ha hr hn hd hL hx hm rfl).mono (fun e w' ⟨r1, r2, r3⟩ => ⟨r1, h.call r2 r3⟩)
theorem Str.take_ (F : BFace BAt) (h : Str BAt w0 zp n g at_ L P A no co l w) (at2 : Int) (L' : BL) (lz : List Int) (hl : takeB L = lz) (hL : leftB L = L') (hc : num32 (at_ + readyB L) = at2) :
    Calls Try.prog 13 #[.pointer (some ⟨g, 0, none⟩)] w (StrTk BAt w0 zp n g at2 L' P A no co l lz) := by
  refine (stake F _ 0 g at_ L _ [(g, at2, L')] w0 w h.at18 rfl at2 L' lz hl hL hc rfl).mono ?_
  rintro e w' ⟨Az, nz, cz, rfl, e1, e2, e3, e4⟩
  exact ⟨Az, nz, cz, rfl, e1, e2.mono (Nat.zero_le _), h.call (e3.sub (fun k hk => .inl hk) (fun k hk => .inl hk)) e4⟩
theorem Str.next_ (F : BFace BAt) (h : Str BAt w0 zp n g at_ L P A no co l w) : Calls Try.prog 16 #[.pointer (some ⟨g, 0, none⟩)] w (StrDo BAt w0 zp n g at_ L P A no co l (.int .u32 at_)) :=
  (snext F _ 0 g at_ L _ w0 w h.at18 rfl).mono (fun e w' ⟨r1, r2, r3⟩ => ⟨r1, h.call r2 r3⟩)
theorem Str.room_ (F : BFace BAt) (h : Str BAt w0 zp n g at_ L P A no co l w) (k : Nat) (hk : L.length = k) : Calls Try.prog 17 #[.pointer (some ⟨g, 0, none⟩)] w (StrDo BAt w0 zp n g at_ L P A no co l (.int .i64 (k : Int))) :=
  (sroom F _ 0 g at_ L _ w0 w h.at18 rfl k hk).mono (fun e w' ⟨r1, r2, r3⟩ => ⟨r1, h.call r2 r3⟩)
theorem Str.ready_ (F : BFace BAt) (h : Str BAt w0 zp n g at_ L P A no co l w) (k : Nat) (hk : readyB L = k) : Calls Try.prog 18 #[.pointer (some ⟨g, 0, none⟩)] w (StrDo BAt w0 zp n g at_ L P A no co l (.int .i64 (k : Int))) :=
  (sready F _ 0 g at_ L _ w0 w h.at18 rfl k hk).mono (fun e w' ⟨r1, r2, r3⟩ => ⟨r1, h.call r2 r3⟩)
theorem Str.held_ (F : BFace BAt) (h : Str BAt w0 zp n g at_ L P A no co l w) : ∃ k : Nat, k ≤ 16 ∧ Calls Try.prog 21 #[.pointer (some ⟨g, 0, none⟩)] w (StrHd BAt w0 zp n g at_ L P A no co l k) := by
  have hk := (h.at18.many.ok F (i := 0) rfl).2.2.2
  refine ⟨(heldB L).length, hk, (sheld F _ 0 g at_ L _ w0 w h.at18 rfl (heldI at_ L) rfl).mono ?_⟩
  rintro e w' ⟨Az, nz, cz, rfl, e1, e2, e3, e4⟩
  have hn : nz = (heldB L).length := by rw [← e1]; unfold heldI; rw [List.length_map]
  subst hn
  exact ⟨Az, cz, rfl, h.call (e3.sub (fun k hk => .inl hk) (fun k hk => .inl hk)) e4⟩
end
end Go.Proofs.Ytmmnicnebammhaa
