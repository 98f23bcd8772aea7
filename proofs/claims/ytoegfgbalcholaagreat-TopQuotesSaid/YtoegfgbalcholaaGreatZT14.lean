/-
  Texts laid together: OptRead, OptsPut.
-/
import Derived.Test.YtoegfgbalcholaaGreatZT10
import Derived.Test.YtoegfgbalcholaaGreatZT13
import Derived.Test.YtoegfgbalcholaaGreatZT12
import Derived.Test.YtoegfgbalcholaaGreatZT06
import Derived.WalkMore
import Derived.Test.YtoegfgbalcholaaGreatZT11
import Derived.Test.YtoegfgbalcholaaGreatZT04

/-
  The contracts of package opts' Parse: filling, option, the closure that reads, Parse.
-/
namespace Go.Proofs.YtoegfgbalcholaaGreat
set_option maxRecDepth 10000
open Go.RowKit

theorem OwnB.at_ {w : World} {B : Nat} {A : Option Addr} {n c k : Nat} {l : List Int} (h : OwnB w B A n c l) (hA : A = some ⟨k, 0, none⟩) : B ≤ k ∧ k < w.heap.size := by
  rcases h.2 with ⟨e, _⟩ | ⟨g, cap, cur, e, hB, hg, _⟩
  · injection e with e _ _; rw [hA] at e; cases e
  · injection e with e _ _
    rw [hA] at e
    injection e with e
    injection e with e _
    subst e
    exact ⟨hB, lt_of_block hg⟩

theorem filling_ok (B g : Nat) (l : List Int) (at_ : Int) (w : World) (hl : l.length ≤ 100) (hz : l.all (fun x => x == 0) = true) (h : Rdr w B g l at_) :
    Calls Tryz.prog 124 #[.pointer (some ⟨g, 0, none⟩)] w fun e w' => e = .returned (.tuple #[]) ∧ Rdr w' B g [] (at_ + l.length) ∧ But (fun k => k = g) w w' := by
  obtain ⟨k, hk⟩ : ∃ k, l.length = k := ⟨_, rfl⟩
  have Hz := Lib.hid hz
  have hby := h.bytes
  have Hr := Lib.hid (rest_is B g k l at_ w hk (by omega) h)
  rw [hk]
  have Hk := Lib.hid hk
  have Hby := Lib.hid hby
  have hk100 : k ≤ 100 := by omega
  clear h hz hk hby hl
  go_enter Tryz.func124, Tryz.ntmps124
  go_wp2_with fail
  refine Hr.out.mono ?_
  rintro e w1 ⟨A, c, rfl, hkc, hcm, hown, hR, hb⟩
  have Hrd := Lib.hid (hown.rd Hby.out)
  have HR := Lib.hid hR
  have Hb := Lib.hid hb
  clear hown hR hb
  go_wp2_with fail
  go_loopg [7] k (fun gk i wr => ∃ j : Nat, Hid (gk + j = k) ∧ j ≤ k ∧ i = .int .i64 (j : Int) ∧ wr = w1)
  case atStart => exact ⟨0, rfl, Nat.zero_le _, rfl, rfl⟩
  case round =>
    obtain ⟨j, hgk, hj, rfl, rfl⟩ := hrel
    by_cases hjk : j < k
    · obtain ⟨p, hi, hc, hpb⟩ := Hrd.out.index (c := c) hjk
      have h0 : l.getD j 0 = 0 := by
        have h2 := Hz.out
        rw [List.all_eq_true] at h2
        have h3 := h2 (l.getD j 0) (by have := Hk.out; simp only [List.getD, List.getElem?_eq_getElem (show j < l.length by omega), Option.getD_some]; exact List.getElem_mem _)
        simpa using h3
      rw [h0] at hc
      clear h0
      go_wp2_with fail
      go_roundg (gk - 1)
      case measure => have := hgk.out; omega
      case rel => exact ⟨j + 1, by have := hgk.out; show gk - 1 + (j + 1) = _; omega, by omega, by go_num, rfl⟩
    · obtain rfl : j = k := by omega
      go_wp2_with fail
      go_end0
      exact ⟨rfl, HR.out, Hb.out⟩

theorem filling_bad (B g : Nat) (l : List Int) (at_ : Int) (w : World) (hl : l.length ≤ 100) (hz : ¬ l.all (fun x => x == 0) = true) (h : Rdr w B g l at_) :
    Calls Tryz.prog 124 #[.pointer (some ⟨g, 0, none⟩)] w (GivesUp g 5 w) := by
  obtain ⟨k, hk⟩ : ∃ k, l.length = k := ⟨_, rfl⟩
  have Hz := Lib.hid hz
  have hby := h.bytes
  have Hr := Lib.hid (rest_is B g k l at_ w hk (by omega) h)
  have Hk := Lib.hid hk
  have Hby := Lib.hid hby
  have hk100 : k ≤ 100 := by omega
  clear h hz hk hby hl
  go_enter Tryz.func124, Tryz.ntmps124
  go_wp2_with fail
  refine Hr.out.mono ?_
  rintro e w1 ⟨A, c, rfl, hkc, hcm, hown, hR, hb⟩
  have Hrd := Lib.hid (hown.rd Hby.out)
  have HR := Lib.hid hR
  have Hb := Lib.hid hb
  clear hown hR hb
  go_wp2_with fail
  go_loopg [7] k (fun gk i wr => ∃ j : Nat, Hid (gk + j = k) ∧ j ≤ k ∧ i = .int .i64 (j : Int) ∧ Hid ((l.take j).all (fun x => x == 0) = true) ∧ wr = w1)
  case atStart => exact ⟨0, rfl, Nat.zero_le _, rfl, Lib.hid (by simp), rfl⟩
  case round =>
    obtain ⟨j, hgk, hj, rfl, hall, rfl⟩ := hrel
    by_cases hjk : j < k
    · obtain ⟨p, hi, hc, hpb⟩ := Hrd.out.index (c := c) hjk
      obtain ⟨y, ey⟩ : ∃ y, l.getD j 0 = y := ⟨_, rfl⟩
      rw [ey] at hc
      have Ey := Lib.hid ey
      clear ey
      by_cases hy : y = 0
      · subst hy
        go_wp2_with fail
        go_roundg (gk - 1)
        case measure => have := hgk.out; omega
        case rel => exact ⟨j + 1, by have := hgk.out; show gk - 1 + (j + 1) = _; omega, by omega, by go_num, Lib.hid (by rw [take_snoc_ l j 0 (by rw [Hk.out]; exact hjk), List.all_append, hall.out, Ey.out]; rfl), rfl⟩
      · have hy2 : (y != 0) = true := by simpa using hy
        have Hf := Lib.hid (fail_any B g 5 [] (at_ + k) _ (by decide) HR.out)
        clear hy
        go_wp2_with fail
        refine Hf.out.mono ?_
        rintro e w2 ⟨rfl, hg, hb2⟩
        exact ⟨rfl, rfl, hg, Hb.out.trans hb2⟩
    · obtain rfl : j = k := by omega
      exact absurd (by have h2 := hall.out; rwa [List.take_of_length_le (by rw [Hk.out]; omega)] at h2) Hz.out

/-- What is wrong with what stands behind an option's kind. -/
def optErr : List Int → Int
  | [] => 4
  | n :: r => if n < 2 then 5 else if (r.length : Int) + 2 < n then 4 else 0

theorem parseL_bad (x : Int) (r : List Int) (h0 : x ≠ 0) (h1 : x ≠ 1) (he : optErr r ≠ 0) : parseL (x :: r) = ([], optErr r) := by
  cases r with
  | nil => exact parseL_end x h0 h1
  | cons n r =>
    rw [parseL_opt x n r h0 h1]
    simp only [optErr] at he ⊢
    by_cases hn : n < 2
    · rw [if_pos hn, if_pos hn]
    · rw [if_neg hn, if_neg hn]
      rw [if_neg hn] at he
      by_cases hs : (r.length : Int) + 2 < n
      · rw [if_pos hs, if_pos hs]
      · rw [if_neg hs] at he; exact absurd rfl he
theorem parseL_good (x : Int) (d : Nat) (D rest : List Int) (h0 : x ≠ 0) (h1 : x ≠ 1) (hd : D.length = d) : parseL (x :: (2 + (d : Int)) :: (D ++ rest)) = behindO [(x, D)] (parseL rest) := by
  rw [parseL_opt _ _ _ h0 h1, if_neg (by omega), if_neg (by rw [List.length_append]; omega), show (2 + (d : Int) - 2).toNat = d by omega, List.take_left' hd, List.drop_left' hd]
theorem optErr_zero {r : List Int} (h : optErr r = 0) : ∃ (d : Nat) (D rest : List Int), r = (2 + (d : Int)) :: (D ++ rest) ∧ D.length = d := by
  cases r with
  | nil => simp [optErr] at h
  | cons n r =>
    simp only [optErr] at h
    by_cases hn : n < 2
    · rw [if_pos hn] at h; cases h
    · rw [if_neg hn] at h
      by_cases hs : (r.length : Int) + 2 < n
      · rw [if_pos hs] at h; cases h
      · exact ⟨(n - 2).toNat, r.take (n - 2).toNat, r.drop (n - 2).toNat, by rw [List.take_append_drop]; congr 1; omega, by rw [List.length_take]; omega⟩

theorem gives_alloc {g : Nat} {x : Int} {w : World} {o : Obj} {e : Ending} {w' : World} (h : GivesUp g x (w.alloc o) e w') : GivesUp g x w e w' :=
  ⟨h.1, h.2.1, (But.of ((Below.refl _ _).alloc (Nat.le_refl _) o)).trans h.2.2⟩

theorem option_none (B g : Nat) (kd : Int) (at_ : Int) (w : World) (h : Rdr w B g [] at_) :
    Calls Tryz.prog 123 #[.pointer (some ⟨g, 0, none⟩), .int .u8 kd] w (GivesUp g 4 w) := by
  have Hu := Lib.hid (u8_short B g [] at_ (w.alloc (.cells #[.int .u8 0, .slice none 0 0] 176)) (by simp) (h.below ((Below.refl _ _).alloc (Nat.le_refl _) _)))
  clear h
  go_enter Tryz.func123, Tryz.ntmps123
  go_wp2_with fail
  refine Hu.out.mono ?_
  rintro e w' ⟨rfl, h⟩
  exact ⟨rfl, gives_alloc (e := .panicked (gaveUp g)) ⟨rfl, h⟩⟩

theorem option_few (B g : Nat) (kd n : Int) (r : List Int) (at_ : Int) (w : World) (hn : n < 2) (h : Rdr w B g (n :: r) at_) :
    Calls Tryz.prog 123 #[.pointer (some ⟨g, 0, none⟩), .int .u8 kd] w (GivesUp g 5 w) := by
  have hn0 := h.bytes n (by simp)
  have Hu := Lib.hid (u8_told B g n r at_ (w.alloc (.cells #[.int .u8 0, .slice none 0 0] 176)) (h.below ((Below.refl _ _).alloc (Nat.le_refl _) _)))
  clear h
  go_enter Tryz.func123, Tryz.ntmps123
  go_wp2_with fail
  refine Hu.out.mono ?_
  rintro e w1 ⟨rfl, hR, hb⟩
  have Hf := Lib.hid (fail_any B g 5 r (at_ + 1) w1 (by decide) hR)
  have Hb := Lib.hid hb
  clear hR hb
  go_wp2_with fail
  refine Hf.out.mono ?_
  rintro e w2 ⟨rfl, hg, hb2⟩
  exact ⟨rfl, gives_alloc (e := .panicked (gaveUp g)) ⟨rfl, hg, Hb.out.trans hb2⟩⟩

theorem option_short (B g : Nat) (kd n : Int) (r : List Int) (at_ : Int) (w : World) (hn : 2 ≤ n) (hs : (r.length : Int) + 2 < n) (h : Rdr w B g (n :: r) at_) :
    Calls Tryz.prog 123 #[.pointer (some ⟨g, 0, none⟩), .int .u8 kd] w (GivesUp g 4 w) := by
  have hn0 := h.bytes n (by simp)
  have Hu := Lib.hid (u8_told B g n r at_ (w.alloc (.cells #[.int .u8 0, .slice none 0 0] 176)) (h.below ((Below.refl _ _).alloc (Nat.le_refl _) _)))
  have hw1 : IntKind.i64.wrap (n - 2) = n - 2 := IntWalk.i64_in _ (by omega)
  have Hs := Lib.hid hs
  clear h hs
  go_enter Tryz.func123, Tryz.ntmps123
  go_wp2_with fail
  refine Hu.out.mono ?_
  rintro e w1 ⟨rfl, hR, hb⟩
  have Hf := Lib.hid (bytes_short B g (n - 2) r (at_ + 1) w1 (by have := Hs.out; omega) hR)
  have Hb := Lib.hid hb
  clear hR hb
  go_wp2_with fail
  refine Hf.out.mono ?_
  rintro e w2 ⟨rfl, hg, hb2⟩
  exact ⟨rfl, gives_alloc (e := .panicked (gaveUp g)) ⟨rfl, hg, Hb.out.trans hb2⟩⟩

theorem option_bad (B g : Nat) (kd x : Int) (l : List Int) (at_ : Int) (w : World) (hx : optErr l = x) (hx0 : x ≠ 0) (h : Rdr w B g l at_) :
    Calls Tryz.prog 123 #[.pointer (some ⟨g, 0, none⟩), .int .u8 kd] w (GivesUp g x w) := by
  subst hx
  cases l with
  | nil => exact option_none B g kd at_ w h
  | cons n r =>
    simp only [optErr] at hx0 ⊢
    by_cases h1 : n < 2
    · rw [if_pos h1]; exact option_few B g kd n r at_ w h1 h
    · rw [if_neg h1] at hx0 ⊢
      by_cases h2 : (r.length : Int) + 2 < n
      · rw [if_pos h2]; exact option_short B g kd n r at_ w (by omega) h2 h
      · rw [if_neg h2] at hx0; exact absurd rfl hx0

/-- An option is told: its Data in memory of its own. -/
def OptionIs (B g d : Nat) (kd : Int) (D rest : List Int) (w : World) (e : Ending) (w' : World) : Prop :=
  ∃ A c at_, e = .returned (.agg #[.int .u8 kd, .slice A d c]) ∧ OwnB w' w.heap.size A d c D ∧ Rdr w' B g rest at_ ∧ But (fun k => k = g) w w'
theorem option_good (B g d : Nat) (kd : Int) (D rest : List Int) (at_ : Int) (w : World) (hd : D.length = d) (hl : D.length + rest.length ≤ 100) (h : Rdr w B g ((2 + (d : Int)) :: (D ++ rest)) at_) :
    Calls Tryz.prog 123 #[.pointer (some ⟨g, 0, none⟩), .int .u8 kd] w (OptionIs B g d kd D rest w) := by
  have hn0 := h.bytes (2 + (d : Int)) (by simp)
  have hr0 := heap_alloc_new w (.cells #[.int .u8 0, .slice none 0 0] 176)
  have hgl : g < w.heap.size := by
    obtain ⟨A, n, c, _, _, _, _, _, hg, _⟩ := h
    exact lt_of_block hg
  have Hu := Lib.hid (u8_told B g (2 + (d : Int)) (D ++ rest) at_ (w.alloc (.cells #[.int .u8 0, .slice none 0 0] 176)) (h.below ((Below.refl _ _).alloc (Nat.le_refl _) _)))
  have hw1 : IntKind.i64.wrap (2 + (d : Int) - 2) = (d : Int) := by rw [show (2 + (d : Int) - 2) = d by omega]; exact IntWalk.i64_in _ (by omega)
  have Hd := Lib.hid hd
  have HD : Hid (∀ x ∈ D, 0 ≤ x ∧ x < 256) := fun x hx => h.bytes x (by simp [hx])
  have Hl := Lib.hid hl
  unfold OptionIs
  clear h hl hd
  obtain ⟨z, hz⟩ : ∃ z, w.heap.size = z := ⟨_, rfl⟩
  have Hr0 := Lib.hid hr0
  clear hr0
  rw [hz] at Hr0 hgl
  go_enter Tryz.func123, Tryz.ntmps123
  simp only [hz]
  go_wp2_with fail
  refine Hu.out.mono ?_
  rintro e w1 ⟨rfl, hR, hb⟩
  have Hby := Lib.hid (bytes_is B g d (D ++ rest) D rest (at_ + 1) w1 Hd.out rfl (by have := Hl.out; simp; omega) hR)
  have hr1 := hb.blk Hr0.out (by omega)
  have Hb := Lib.hid hb
  have Hr1 := Lib.hid hr1
  clear hR hb hr1
  go_wp2_with fail
  refine Hby.out.mono ?_
  rintro e w2 ⟨A, c, rfl, hdc, hcm, hown, hR, hb2⟩
  have hr2 := hb2.blk Hr1.out (by omega)
  have c0 := blk_cell hr2 0
  have c1 := blk_cell hr2 1
  have f0 := blk_free hr2 0
  have f1 := blk_free hr2 1
  have Hr2 := Lib.hid hr2
  have Hown := Lib.hid hown
  have HR := Lib.hid hR
  have Hb2 := Lib.hid hb2
  have hz1 : z + 1 ≤ w1.heap.size := by have := Hb.out.size; simp at this; omega
  clear hown hR hb2 hr2
  go_wp2_with fail
  have hset : But (fun k => k = z) w2 ((w2.setCell ⟨z, 0, none⟩ (.int .u8 kd)).setCell ⟨z, 1, none⟩ (.slice A d c)) := ((But.refl (fun k => k = z) _).setCell (p := ⟨z, 0, none⟩) rfl _).setCell (p := ⟨z, 1, none⟩) rfl _
  refine bodyPost_ret (v := .agg #[.int .u8 kd, .slice A d c]) (by simp [results, Tryz.results123, go_sem, *]) rfl ⟨A, c, _, rfl, (Hown.out.mono (by omega)).butA hset (fun k e hk => ?_), HR.out.butY hset (fun k hk => .inr (by omega)), ?_⟩
  · have := OwnB.at_ Hown.out e
    omega
  · exact ((((But.of (S := fun k => k = g) ((Below.refl _ _).alloc (Nat.le_refl _) (.cells #[.int .u8 0, .slice none 0 0] 176))).trans (Hb.out.trans Hb2.out)).setNew (p := ⟨z, 0, none⟩) (by rw [hz]; exact Nat.le_refl _) _).setNew (p := ⟨z, 1, none⟩) (by rw [hz]; exact Nat.le_refl _) _)

/-- Options whose bytes lie in rows of the call's own, from block B on. -/
def OptOwn (w : World) (B : Nat) (o : OptV) (l : Int × List Int) : Prop := o.kind = l.1 ∧ (0 ≤ o.kind ∧ o.kind < 256) ∧ (∀ x ∈ l.2, 0 ≤ x ∧ x < 256) ∧ OwnB w B o.A o.n o.c l.2
def OwnL (w : World) (B : Nat) : List OptV → List (Int × List Int) → Prop
  | [], [] => True
  | o :: os, l :: ls => OptOwn w B o l ∧ OwnL w B os ls
  | _, _ => False
theorem OptOwn.at_ {w : World} {B : Nat} {o : OptV} {l : Int × List Int} (h : OptOwn w B o l) : OptAt w o l := ⟨h.1, h.2.1, h.2.2.2.cap, h.2.2.2.capMax, h.2.2.2.rd h.2.2.1⟩
theorem OwnL.reads {w : World} {B : Nat} : ∀ {os : List OptV} {ls : List (Int × List Int)}, OwnL w B os ls → Reads w os ls
  | [], [], _ => trivial
  | _ :: _, _ :: _, h => ⟨h.1.at_, OwnL.reads h.2⟩
theorem OwnL.mono {w w' : World} {B B' : Nat} (hm : ∀ o l, OptOwn w B o l → OptOwn w' B' o l) : ∀ {os : List OptV} {ls : List (Int × List Int)}, OwnL w B os ls → OwnL w' B' os ls
  | [], [], _ => trivial
  | _ :: _, _ :: _, h => ⟨hm _ _ h.1, OwnL.mono hm h.2⟩
theorem OwnL.but {S : Nat → Prop} {w w' : World} {B : Nat} {os : List OptV} {ls : List (Int × List Int)} (h : OwnL w B os ls) (hb : But S w w') (hS : ∀ n c l k, OwnB w B (some ⟨k, 0, none⟩) n c l → ¬ S k) : OwnL w' B os ls :=
  h.mono fun _ _ h => ⟨h.1, h.2.1, h.2.2.1, h.2.2.2.butA hb (fun k e => by have h2 := h.2.2.2; rw [e] at h2; exact hS _ _ _ k h2)⟩
theorem OwnL.on {w w' : World} {B : Nat} {os : List OptV} {ls : List (Int × List Int)} (h : OwnL w B os ls) (hb : Below w.heap.size w w') : OwnL w' B os ls := h.mono fun _ _ h => ⟨h.1, h.2.1, h.2.2.1, h.2.2.2.on hb⟩
theorem OwnL.low {w : World} {B B' : Nat} {os : List OptV} {ls : List (Int × List Int)} (h : OwnL w B os ls) (hB : B' ≤ B) : OwnL w B' os ls := h.mono fun _ _ h => ⟨h.1, h.2.1, h.2.2.1, h.2.2.2.mono hB⟩
theorem OwnL.snoc {w : World} {B : Nat} : ∀ {a b : List OptV} {k l : List (Int × List Int)}, OwnL w B a k → OwnL w B b l → OwnL w B (a ++ b) (k ++ l)
  | [], _, [], _, _, h => h
  | _ :: _, _, _ :: _, _, h, h' => ⟨h.1, OwnL.snoc h.2 h'⟩
/-- The options' own row is none of their bytes' rows. -/
theorem own_apart {w : World} {B B2 n c n2 c2 k : Nat} {l : List Int} {A2 : Option Addr} {os : List OptV} (h : OwnB w B (some ⟨k, 0, none⟩) n c l) (ho : OwnO w B2 A2 n2 c2 os) : ¬ Blk A2 k := by
  rintro ⟨a, rfl, rfl⟩
  rcases ho.2 with ⟨e, _⟩ | ⟨g, cap, cur, e, hB, hg, _⟩
  · injection e with e _ _; cases e
  · injection e with e _ _
    injection e with e
    subst e
    exact own_ne h hg _ rfl rfl
theorem OwnL.grown {w w' : World} {B B2 n2 c2 : Nat} {os os2 : List OptV} {ls : List (Int × List Int)} {A2 : Option Addr} (h : OwnL w B os ls) (ho : OwnO w B2 A2 n2 c2 os2) (hg : w.grownBy w' (Value.slice A2 n2 c2).ownBlock) : OwnL w' B os ls :=
  h.but (grown_but hg) (fun _ _ _ _ h2 => own_apart h2 ho)
/-- Options told, their bytes in rows of the call's own. -/
def ParseOwn (b : List Int) (w : World) (e : Ending) (w' : World) : Prop :=
  ∃ A m c os, e = .returned (.tuple #[.slice A m c, .int .i64 (parseO b).2]) ∧ OwnO w' w.heap.size A m c os ∧ OwnL w' w.heap.size os (parseO b).1 ∧ Below w.heap.size w w'
theorem ParseOwn.told {b : List Int} {w w' : World} {e : Ending} (h : ParseOwn b w e w') : ParseO b w e w' := by
  obtain ⟨A, m, c, os, h1, h2, h3, h4⟩ := h
  exact ⟨A, m, c, os, h1, h2, h3.reads, h4⟩

/-- What the closure that reads options leaves: in block p the options, or how it gave up. -/
def ParseR (p : Nat) (b : List Int) (w1 : World) (x : Int) (w' : World) : Prop :=
  x = (parseL b).2 ∧ (x = 0 → ∃ A m c os, Box w' p 27 (.slice A m c) ∧ OwnO w' w1.heap.size A m c os ∧ OwnL w' w1.heap.size os (parseL b).1)

theorem gave_did {g p : Nat} {b : List Int} {x : Int} {w w1 w' : World} {S : Nat → Prop} (hb : But (fun k => S k ∨ k = g) w w1) (h : Gave w' g x) (hb2 : But (fun k => k = g) w1 w') (hx : (parseL b).2 = x) (hx0 : x ≠ 0) : Did S g (ParseR p b w) w (.panicked (gaveUp g)) w' := by
  obtain ⟨A, n, c, at_, hg⟩ := h
  exact ⟨x, A, n, c, at_, .inr rfl, hg, hb.trans (hb2.mono (fun _ _ h => .inr h)), hx.symm, fun h => absurd h hx0⟩
theorem But.belowB {S : Nat → Prop} {w w1 w' : World} (h : But S w w1) (hb : Below w.heap.size w1 w') : But S w w' :=
  ⟨hb.os.trans h.os, hb.tape.trans h.tape, hb.output.trans h.output, Nat.le_trans h.size hb.size, fun k hk hn => (hb.block k hk).trans (h.block k hk hn)⟩
theorem OwnO.at_ {w : World} {B : Nat} {A : Option Addr} {n c k : Nat} {os : List OptV} (h : OwnO w B A n c os) (hA : A = some ⟨k, 0, none⟩) : B ≤ k ∧ k < w.heap.size := by
  rcases h.2 with ⟨e, _⟩ | ⟨g, cap, cur, e, hB, hg, _⟩
  · injection e with e _ _; rw [hA] at e; cases e
  · injection e with e _ _
    rw [hA] at e
    injection e with e
    injection e with e _
    subst e
    exact ⟨hB, lt_of_block hg⟩

theorem OwnO.blkB {w : World} {B : Nat} {A : Option Addr} {n c k : Nat} {os : List OptV} (h : OwnO w B A n c os) (hk : Blk A k) : B ≤ k := by
  obtain ⟨a, rfl, rfl⟩ := hk
  rcases h.2 with ⟨e, _⟩ | ⟨g, cap, cur, e, hB, hg, _⟩
  · injection e with e _ _; cases e
  · injection e with e _ _
    injection e with e
    subst e
    exact hB
/-- What the reading of options has so far. -/
structure PHold (w : World) (g p : Nat) (A : Option Addr) (m c : Nat) (os : List OptV) (acc : List (Int × List Int)) (wr : World) : Prop where
  box : Box wr p 27 (.slice A m c)
  own : OwnO wr w.heap.size A m c os
  ownl : OwnL wr w.heap.size os acc
  but : But (fun k => k = p ∨ k = g) w wr
theorem PHold.drew {w : World} {g p : Nat} {A : Option Addr} {m c : Nat} {os : List OptV} {acc : List (Int × List Int)} {wr : World} (h : PHold w g p A m c os acc wr) : PHold w g p A m c os acc wr.drew :=
  ⟨h.box.but ((But.refl (fun _ => False) _).drew) (fun x => x), h.own.drew, h.ownl.on (Below.drew (Below.refl _ _)), h.but.drew⟩
theorem PHold.step {w : World} {g p : Nat} {A : Option Addr} {m c : Nat} {os : List OptV} {acc : List (Int × List Int)} {wr w' : World} (h : PHold w g p A m c os acc wr) (hg : g < w.heap.size) (hpg : p ≠ g) (hb : But (fun k => k = g) wr w') : PHold w g p A m c os acc w' :=
  ⟨h.box.but hb hpg, h.own.but hb (fun k e => by have := h.own.at_ e; omega), h.ownl.but hb (fun _ _ _ k h2 => by have := h2.at_ rfl; omega), h.but.trans (hb.mono (fun _ _ h => .inr h))⟩
theorem PHold.fin {w : World} {B g p : Nat} {A : Option Addr} {m c : Nat} {os : List OptV} {b l : List Int} {at_ : Int} {acc : List (Int × List Int)} {wr : World} (h : PHold w g p A m c os acc wr) (hR : Rdr wr B g l at_) (he : parseL b = (acc, 0)) : Did (fun k => k = p) g (ParseR p b w) w (.returned (.tuple #[])) wr := by
  obtain ⟨A', n', c', _, _, _, _, _, hg, _⟩ := hR
  exact ⟨0, A', n', c', _, .inl ⟨rfl, rfl⟩, hg, h.but, by rw [he], fun _ => ⟨A, m, c, os, h.box, h.own, by rw [he]; exact h.ownl⟩⟩
/-- One option more. -/
theorem PHold.more {w : World} {g p : Nat} {A A4 A5 : Option Addr} {m c d c4 c5 : Nat} {os : List OptV} {acc : List (Int × List Int)} {w4 w6 : World} {x : Int} {D : List Int} (h : PHold w g p A m c os acc w4) (hp : p < w.heap.size)
    (hx : 0 ≤ x ∧ x < 256) (hD : ∀ y ∈ D, 0 ≤ y ∧ y < 256) (h4 : OwnB w4 w.heap.size A4 d c4 D) (ho : OwnO w6 w.heap.size A5 (m + 1) c5 (os ++ [⟨x, A4, d, c4⟩])) (hg : (w4.alloc (.cells #[.int .u8 x, .slice A4 d c4] 176)).grownBy w6 (Value.slice A m c).ownBlock) (hb : Below w.heap.size (w4.alloc (.cells #[.int .u8 x, .slice A4 d c4] 176)) w6) :
    PHold w g p A5 (m + 1) c5 (os ++ [⟨x, A4, d, c4⟩]) (acc ++ [(x, D)]) (w6.setCell ⟨p, 0, none⟩ (.slice A5 (m + 1) c5)) := by
  have hba : Below w4.heap.size w4 (w4.alloc (.cells #[.int .u8 x, .slice A4 d c4] 176)) := (Below.refl _ _).alloc (Nat.le_refl _) _
  have hl5 : OwnL (w4.alloc (.cells #[.int .u8 x, .slice A4 d c4] 176)) w.heap.size (os ++ [⟨x, A4, d, c4⟩]) (acc ++ [(x, D)]) := (h.ownl.on hba).snoc ⟨⟨rfl, hx, hD, h4.on hba⟩, trivial⟩
  have hl6 := hl5.grown (h.own.on hba) hg
  have hset : But (fun k => k = p) w6 (w6.setCell ⟨p, 0, none⟩ (.slice A5 (m + 1) c5)) := (But.refl (fun k => k = p) _).setCell (p := ⟨p, 0, none⟩) rfl _
  have h6 : But (fun k => k = p ∨ k = g) w w6 := (h.but.trans (But.of hba)).belowB hb
  exact ⟨((h.box.alloc _).below hb hp).set_ _, ho.but hset (fun k e => by have := ho.at_ e; omega), hl6.but hset (fun _ _ _ k h2 => by have := h2.at_ rfl; omega), h6.trans (hset.mono (fun _ _ h => .inl h))⟩

theorem parse_do (B g p : Nat) (b : List Int) (w : World) (hl : b.length ≤ 40) (hp : p < B) (hbox : Box w p 27 (.slice none 0 0)) (h : Rdr w B g b 0) :
    Calls Tryz.prog 122 #[.pointer (some ⟨g, 0, none⟩), .pointer (some ⟨p, 0, none⟩)] w (Did (fun k => k = p) g (ParseR p b w) w) := by
  have hg : B ≤ g ∧ g < w.heap.size := by
    obtain ⟨A, n, c, _, _, _, hB, _, hg, _⟩ := h
    exact ⟨hB.1, lt_of_block hg⟩
  have hpg : p ≠ g := by omega
  obtain ⟨n, hn⟩ : ∃ n, b.length = n := ⟨_, rfl⟩
  have Hn := Lib.hid hn
  have hn40 : n ≤ 40 := by omega
  have Hby := Lib.hid h.bytes
  have Hrd := Lib.hid h
  have Hbox := Lib.hid hbox
  clear h hl hbox hn
  go_enter Tryz.func122, Tryz.ntmps122
  go_step3
  go_wp2_with fail
  go_step3
  go_wp2_with fail
  go_loopg [] n (fun gk wr => ∃ (j m2 : Nat) (A2 : Option Addr) (c2 : Nat) (os : List OptV) (acc : List (Int × List Int)), Hid (gk + j = n) ∧ j ≤ n ∧ m2 ≤ j ∧ Hid (∃ at_, Rdr wr B g (b.drop j) at_) ∧ Hid (PHold w g p A2 m2 c2 os acc wr) ∧ Hid (parseL b = behindO acc (parseL (b.drop j))))
  case atStart => exact ⟨0, 0, none, 0, [], [], rfl, Nat.zero_le _, Nat.le_refl _, Lib.hid ⟨_, by simpa using Hrd.out⟩, Lib.hid ⟨Hbox.out, OwnO.nil _ _, trivial, But.refl _ _⟩, Lib.hid (by rw [List.drop_zero]; exact (behindO_nil (parseL b) (parseF_err _ _)).symm)⟩
  case round =>
    obtain ⟨j, m2, A2, c2, os, acc, hgk, hj, hmj, hR', hH, hpa⟩ := hrel
    obtain ⟨at_, hR''⟩ := hR'.out
    have hR := Lib.hid hR''
    clear hR' hR''
    have Hleft := Lib.hid (left_ok B g (b.drop j) at_ wr hR.out)
    by_cases hjn : j < n
    · have hd := drop_cons_ b j (by rw [Hn.out]; exact hjn)
      have hlen : ((b.drop j).length : Int) = n - j := by rw [List.length_drop, Hn.out]; omega
      obtain ⟨x, ex⟩ : ∃ x, b.getD j 0 = x := ⟨_, rfl⟩
      rw [ex] at hd
      rw [hlen] at Hleft
      have hpos : 0 < (n : Int) - j := by omega
      have hxb := Hby.out x (List.mem_of_mem_drop (by rw [hd]; simp))
      have Hd := Lib.hid hd
      have Hu := Lib.hid (u8_told B g x (b.drop (j + 1)) at_ wr (by rw [← hd]; exact hR.out))
      clear hd hlen ex
      by_cases h0 : x = 0
      · subst h0
        go_wp2_with fail
        refine Hleft.out.mono ?_
        rintro e w1 ⟨rfl, rfl⟩
        go_wp2_with fail
        refine Hu.out.mono ?_
        rintro e w2 ⟨rfl, hR2, hb2⟩
        have HH2 := Lib.hid (hH.out.step hg.2 hpg hb2)
        have HR2 := Lib.hid hR2
        clear hR2 hb2
        go_wp2_with fail
        have hlen2 : (b.drop (j + 1)).length ≤ 100 := by rw [List.length_drop, Hn.out]; omega
        by_cases hz : (b.drop (j + 1)).all (fun x => x == 0) = true
        · refine (filling_ok B g _ _ w2 hlen2 hz HR2.out).mono ?_
          rintro e w3 ⟨rfl, hR3, hb3⟩
          have Hfin := Lib.hid ((HH2.out.step hg.2 hpg hb3).fin hR3 (show parseL b = (acc, 0) by rw [hpa.out, Hd.out, parseL_zero, if_pos hz]; simp [behindO]))
          clear hR3 hb3
          go_wp2_with fail
          rw [Exit.noGoto_normal]
          go_end0
          exact Hfin.out
        · refine (filling_bad B g _ _ w2 hlen2 hz HR2.out).mono ?_
          rintro e w3 ⟨rfl, hg3, hb3⟩
          have Hfin := Lib.hid (gave_did (p := p) (b := b) HH2.out.but hg3 hb3 (show (parseL b).2 = 5 by rw [hpa.out, Hd.out, parseL_zero, if_neg hz]; simp [behindO]) (by decide))
          clear hg3 hb3
          exact ⟨rfl, Hfin.out⟩
      · have hx0 : (x == 0) = false := by simpa using h0
        have H0 := Lib.hid h0
        clear h0
        by_cases h1 : x = 1
        · subst h1
          go_wp2_with fail
          refine Hleft.out.mono ?_
          rintro e w1 ⟨rfl, rfl⟩
          go_wp2_with fail
          refine Hu.out.mono ?_
          rintro e w2 ⟨rfl, hR2, hb2⟩
          have HH2 := Lib.hid (hH.out.step hg.2 hpg hb2)
          have HR2 := Lib.hid hR2
          clear hR2 hb2
          go_wp2_with fail
          go_roundg (gk - 1)
          case measure => have := hgk.out; omega
          case rel => exact ⟨j + 1, m2, A2, c2, os, acc, by have := hgk.out; show gk - 1 + (j + 1) = _; omega, by omega, by omega, Lib.hid ⟨_, HR2.out⟩, HH2, Lib.hid (by rw [hpa.out, Hd.out, parseL_one])⟩
        · have hx1 : (x == 1) = false := by simpa using h1
          have H1 := Lib.hid h1
          clear h1
          go_wp2_with fail
          refine Hleft.out.mono ?_
          rintro e w1 ⟨rfl, rfl⟩
          go_wp2_with fail
          refine Hu.out.mono ?_
          rintro e w2 ⟨rfl, hR2, hb2⟩
          have HH2 := Lib.hid (hH.out.step hg.2 hpg hb2).drew
          have HR2 := Lib.hid (hR2.below (Below.drew (Below.refl _ _)))
          have Hsof := Lib.hid (show ∀ w', PHold w g p A2 m2 c2 os acc w' → w'.cell? ⟨p, 0, none⟩ = some (.slice A2 m2 c2) from fun w' h => h.box.cell)
          clear hR2 hb2
          go_wp2_with fail
          by_cases hoe : optErr (b.drop (j + 1)) = 0
          · obtain ⟨d, D, rest, er, hdl⟩ := optErr_zero hoe
            have hpn : parseL b = behindO (acc ++ [(x, D)]) (parseL rest) := by rw [hpa.out, Hd.out, er, parseL_good x d D rest H0.out H1.out hdl, behindO_app]
            have hlr : (b.drop (j + 1)).length = 1 + (d + rest.length) := by rw [er]; simp [hdl]; omega
            have hln : (b.drop (j + 1)).length = n - (j + 1) := by rw [List.length_drop, Hn.out]
            have hdr : rest = b.drop (j + (2 + d)) := by
              have e1 : b.drop (j + (2 + d)) = (b.drop (j + 1)).drop (1 + d) := by rw [List.drop_drop]; congr 1; omega
              rw [e1, er, Nat.add_comm 1 d, List.drop_succ_cons, List.drop_left' hdl]
            have hDb : ∀ y ∈ D, 0 ≤ y ∧ y < 256 := fun y hy => Hby.out y (List.mem_of_mem_drop (i := j + 1) (by rw [er]; simp [hy]))
            rw [er] at HR2
            have Hpn := Lib.hid hpn
            have Hdr := Lib.hid hdr
            have HDb := Lib.hid hDb
            have Hdl := Lib.hid hdl
            have Hxb := Lib.hid hxb
            have hjd : j + (2 + d) ≤ n := by omega
            have hlim : D.length + rest.length ≤ 100 := by omega
            clear hpn hdr hDb hlr hln er hoe
            obtain ⟨w3, ew3⟩ : ∃ w3, w2.drew = w3 := ⟨_, rfl⟩
            rw [ew3] at HH2 HR2
            refine wp_region_heldL (S := fun w' => w'.cell? ⟨p, 0, none⟩ = some (.slice A2 m2 c2)) 6 (by kernel_rfl) (by rw [ew3]; exact Hsof.out _ HH2.out) (fun hHeld => ?_)
            refine anyHL_take (i := 0) (oi := { dst := some 10, op := Go.Op.load 27 (Go.Operand.tmp 1), type := 27, pos := "opts.go:51", after := #[], guard := none }) (v := ?_) rfl (by kernel_rfl) (by kernel_rfl) (by kernel_rfl) (by kernel_rfl) (fun _ _ _ h => h) (Or.inl ⟨by rfl, ?_⟩) (by assumption) ?_
            rotate_left 1
            · intro w' hSw; (go_simp <;> (with_reducible rfl))
            (try simp only [Act.put, List.setIfInBounds_toArray, List.set_cons_zero, List.set_cons_succ])
            refine anyHL_take (i := 1) (oi := { dst := some 11, op := Go.Op.move (Go.Operand.tmp 0), type := 106, pos := "opts.go:51", after := #[], guard := none }) (v := ?_) rfl (by kernel_rfl) (by kernel_rfl) (by kernel_rfl) (by kernel_rfl) (fun _ _ _ h => h) (Or.inl ⟨by rfl, ?_⟩) (by assumption) ?_
            rotate_left 1
            · intro w' hSw; (go_simp <;> (with_reducible rfl))
            (try simp only [Act.put, List.setIfInBounds_toArray, List.set_cons_zero, List.set_cons_succ])
            refine anyHL_take (i := 2) (oi := { dst := some 12, op := Go.Op.move (Go.Operand.tmp 3), type := 5, pos := "opts.go:51", after := #[], guard := none }) (v := ?_) rfl (by kernel_rfl) (by kernel_rfl) (by kernel_rfl) (by kernel_rfl) (fun _ _ _ h => h) (Or.inl ⟨by rfl, ?_⟩) (by assumption) ?_
            rotate_left 1
            · intro w' hSw; (go_simp <;> (with_reducible rfl))
            (try simp only [Act.put, List.setIfInBounds_toArray, List.set_cons_zero, List.set_cons_succ])
            refine anyHL_one (i := 3) (o := { dst := some 13, op := Go.Op.call { callee := Go.Callee.value (Go.Operand.func 123), args := #[Go.Operand.tmp 11, Go.Operand.tmp 12], argTypes := #[106, 5] }, type := 176, pos := "opts.go:51", after := #[{ on := 1, ground := Go.Ground.data }, { on := 2, ground := Go.Ground.data }], guard := none }) (by kernel_rfl) rfl (by kernel_rfl) (fun K hK => ?_)
            go_simp
            (go_at_call 123; refine (option_good B g d x D rest _ _ Hdl.out hlim HR2.out).mono ?_; rintro e w4 ⟨A4, c4, at4, rfl, hown4, hR4, hb4⟩; have HH4 := Lib.hid (HH2.out.step hg.2 hpg hb4); have HR4 := Lib.hid hR4; have Hown4 := Lib.hid (hown4.mono HH2.out.but.size); clear hown4 hR4 hb4)
            refine hK.out _ _ ?_ (fun hHeld => ?_)
            · exact Hsof.out _ HH4.out
            clear hK K
            (try simp only [Act.put, List.setIfInBounds_toArray, List.set_cons_zero, List.set_cons_succ])
            refine anyHL_one (i := 4) (o := { dst := some 14, op := Go.Op.buildSlice 27 1 #[(0, Go.Operand.tmp 13)], type := 27, pos := "opts.go:51", after := #[{ on := 3, ground := Go.Ground.data }], guard := none }) (by kernel_rfl) rfl (by kernel_rfl) (fun K hK => ?_)
            go_simp
            skip
            refine hK.out _ _ ?_ (fun hHeld => ?_)
            · exact (HH4.out.box.alloc _).cell
            clear hK K
            (try simp only [Act.put, List.setIfInBounds_toArray, List.set_cons_zero, List.set_cons_succ])
            refine anyHL_one (i := 5) (o := { dst := some 15, op := Go.Op.call { callee := Go.Callee.builtin Go.Builtin.append, args := #[Go.Operand.tmp 10, Go.Operand.tmp 14], argTypes := #[27, 27] }, type := 27, pos := "opts.go:51", after := #[{ on := 0, ground := Go.Ground.data }, { on := 4, ground := Go.Ground.data }, { on := 3, ground := Go.Ground.chain }], guard := none }) (by kernel_rfl) rfl (by kernel_rfl) (fun K hK => ?_)
            (refine step_appO (by rfl) (.tmp 10) (.tmp 14) (by rfl) w.heap.size A2 (some ⟨w4.heap.size, 0, none⟩) m2 c2 1 1 _ [⟨x, A4, d, c4⟩] (m2 + 1) _ rfl rfl (by rfl) (by rfl) (HH4.out.own.on ((Below.refl _ _).alloc (Nat.le_refl _) _)) (RdO.one w4 w4.heap.size rfl _ _ x A4 d c4) (by omega) (by have := HH4.out.but.size; simp; omega) ?_; intro A5 c5 w5 hown5 hgr5 hb5 hat5; have hbx5 := (HH4.out.box.alloc (.cells #[.int .u8 x, .slice A4 d c4] 176)).below hb5 (by omega))
            refine hK.out _ _ ?_ (fun hHeld => ?_)
            · exact hbx5.cell
            clear hK K
            (try simp only [Act.put, List.setIfInBounds_toArray, List.set_cons_zero, List.set_cons_succ])
            have hc5 := hbx5.cell
            have hf5 := hbx5.free
            refine anyHL_last (o := { dst := none, op := Go.Op.store 27 (Go.Operand.tmp 1) (Go.Operand.tmp 15), type := 0, pos := "opts.go:51", after := #[{ on := 5, ground := Go.Ground.data }, { on := 5, ground := Go.Ground.chain }, { on := 0, ground := Go.Ground.phase }, { on := 1, ground := Go.Ground.phase }, { on := 2, ground := Go.Ground.phase }, { on := 3, ground := Go.Ground.phase }, { on := 4, ground := Go.Ground.phase }, { on := 5, ground := Go.Ground.phase }], guard := none }) (by kernel_rfl) rfl (by kernel_rfl) (fun K hK => ?_)
            go_simp
            skip
            refine hK.out _ _ ?_
            clear hK K
            (try simp only [Act.put, List.setIfInBounds_toArray, List.set_cons_zero, List.set_cons_succ])
            have HH7 := Lib.hid (HH4.out.more (by omega) Hxb.out HDb.out Hown4.out hown5 hgr5 hb5)
            have hset : But (fun k => k = p) w5 (w5.setCell ⟨p, 0, none⟩ (.slice A5 (m2 + 1) c5)) := (But.refl (fun k => k = p) _).setCell (p := ⟨p, 0, none⟩) rfl _
            have HR7 := Lib.hid (((HR4.out.below ((Below.refl _ _).alloc (Nat.le_refl _) (.cells #[.int .u8 x, .slice A4 d c4] 176))).butY (grown_but hgr5) (fun k hk => .inr (by have := HH4.out.own.blkB hk; omega))).butY hset (fun k hk => .inl (by omega)))
            rw [Hdr.out] at HR7
            rw [Hdr.out] at Hpn
            clear hset hgr5 hb5 hat5 hown5 hbx5 hc5 hf5
            go_wp2_with fail
            go_roundg (n - (j + (2 + d)))
            case measure => have := hgk.out; omega
            case rel => exact ⟨j + (2 + d), m2 + 1, A5, c5, _, _, (show n - (j + (2 + d)) + (j + (2 + d)) = n by omega), by omega, by omega, Lib.hid ⟨_, HR7.out⟩, HH7, Hpn⟩
          · have Hpe := Lib.hid (show (parseL b).2 = optErr (b.drop (j + 1)) by
              rw [hpa.out, Hd.out, parseL_bad x _ H0.out H1.out hoe]
              simp [behindO, hoe])
            have Hoe := Lib.hid hoe
            clear hoe
            refine wp_region_heldL (S := fun w' => w'.cell? ⟨p, 0, none⟩ = some (.slice A2 m2 c2)) 6 (by kernel_rfl) (Hsof.out _ HH2.out) (fun hHeld => ?_)
            refine anyHL_take (i := 0) (oi := { dst := some 10, op := Go.Op.load 27 (Go.Operand.tmp 1), type := 27, pos := "opts.go:51", after := #[], guard := none }) (v := ?_) rfl (by kernel_rfl) (by kernel_rfl) (by kernel_rfl) (by kernel_rfl) (fun _ _ _ h => h) (Or.inl ⟨by rfl, ?_⟩) (by assumption) ?_
            rotate_left 1
            · intro w' hSw; (go_simp <;> (with_reducible rfl))
            (try simp only [Act.put, List.setIfInBounds_toArray, List.set_cons_zero, List.set_cons_succ])
            refine anyHL_take (i := 1) (oi := { dst := some 11, op := Go.Op.move (Go.Operand.tmp 0), type := 106, pos := "opts.go:51", after := #[], guard := none }) (v := ?_) rfl (by kernel_rfl) (by kernel_rfl) (by kernel_rfl) (by kernel_rfl) (fun _ _ _ h => h) (Or.inl ⟨by rfl, ?_⟩) (by assumption) ?_
            rotate_left 1
            · intro w' hSw; (go_simp <;> (with_reducible rfl))
            (try simp only [Act.put, List.setIfInBounds_toArray, List.set_cons_zero, List.set_cons_succ])
            refine anyHL_take (i := 2) (oi := { dst := some 12, op := Go.Op.move (Go.Operand.tmp 3), type := 5, pos := "opts.go:51", after := #[], guard := none }) (v := ?_) rfl (by kernel_rfl) (by kernel_rfl) (by kernel_rfl) (by kernel_rfl) (fun _ _ _ h => h) (Or.inl ⟨by rfl, ?_⟩) (by assumption) ?_
            rotate_left 1
            · intro w' hSw; (go_simp <;> (with_reducible rfl))
            (try simp only [Act.put, List.setIfInBounds_toArray, List.set_cons_zero, List.set_cons_succ])
            refine anyHL_one (i := 3) (o := { dst := some 13, op := Go.Op.call { callee := Go.Callee.value (Go.Operand.func 123), args := #[Go.Operand.tmp 11, Go.Operand.tmp 12], argTypes := #[106, 5] }, type := 176, pos := "opts.go:51", after := #[{ on := 1, ground := Go.Ground.data }, { on := 2, ground := Go.Ground.data }], guard := none }) (by kernel_rfl) rfl (by kernel_rfl) (fun K hK => ?_)
            go_simp
            (go_at_call 123; refine (option_bad B g x _ _ _ _ rfl Hoe.out HR2.out).mono ?_; rintro e w4 ⟨rfl, hg4, hb4⟩; exact ⟨rfl, gave_did HH2.out.but hg4 hb4 Hpe.out Hoe.out⟩)
    · obtain rfl : j = n := by omega
      have hlen : ((b.drop j).length : Int) = 0 := by rw [List.length_drop, Hn.out]; omega
      rw [hlen] at Hleft
      go_wp2_with fail
      refine Hleft.out.mono ?_
      rintro e w1 ⟨rfl, rfl⟩
      go_wp2_with fail
      have hnil : b.drop j = [] := List.drop_eq_nil_of_le (by rw [Hn.out]; omega)
      have hR' := hR.out
      rw [hnil] at hR'
      refine (filling_ok B g [] _ _ (by simp) rfl hR').mono ?_
      rintro e w3 ⟨rfl, hR3, hb3⟩
      have Hfin := Lib.hid ((hH.out.step hg.2 hpg hb3).fin hR3 (show parseL b = (acc, 0) by rw [hpa.out, hnil, parseL_nil]; simp [behindO]))
      clear hR3 hb3 hR'
      go_wp2_with fail
      rw [Exit.noGoto_normal]
      go_end0
      exact Hfin.out

theorem parse_any (A : Option Addr) (n c : Nat) (b : List Int) (w : World) (hn : n ≤ 140737488355328) (hr : Rd w A n b) :
    Calls Tryz.prog 111 #[.slice A n c] w (ParseOwn b w) := by
  have hmf : ∀ (fn : Fn) (first cap : Array Value) (w : World), (Instr.makeFunc fn first cap).run Tryz.prog w = .ok (.func fn first cap) w := fun _ _ _ _ => rfl
  by_cases h40 : 40 < n
  · have hi : 40 < (n : Int) := by omega
    have Hp := Lib.hid (show parseO b = ([], 3) by unfold parseO; rw [if_pos (by rw [hr.len]; exact h40)])
    clear hr
    go_enter Tryz.func111, Tryz.ntmps111
    go_wp2_with fail
    go_ret2
    exact ⟨none, 0, 0, [], by rw [Hp.out]; rfl, OwnO.nil _ _, by rw [Hp.out]; trivial, Below.refl _ _⟩
  · have hi : (n : Int) ≤ 40 := by omega
    have hlen := hr.len
    have Hp := Lib.hid (show parseO b = parseL b by unfold parseO; rw [if_neg (by rw [hr.len]; exact h40)])
    obtain ⟨z, hz⟩ : ∃ z, w.heap.size = z := ⟨_, rfl⟩
    have hba : Below w.heap.size w (w.alloc (.cells #[.slice none 0 0] 27)) := (Below.refl _ _).alloc (Nat.le_refl _) _
    have hbox : Box (w.alloc (.cells #[.slice none 0 0] 27)) z 27 (.slice none 0 0) := by rw [← hz]; exact Box.new _ _ _
    have hsz : (w.alloc (.cells #[.slice none 0 0] 27)).heap.size = z + 1 := by simp [hz]
    have hdo := fun w1 g (hb : Below (w.alloc (.cells #[.slice none 0 0] 27)).heap.size (w.alloc (.cells #[.slice none 0 0] 27)) w1) (_ : (w.alloc (.cells #[.slice none 0 0] 27)).heap.size ≤ g) (_ : g < w1.heap.size) (hR : Rdr w1 (w.alloc (.cells #[.slice none 0 0] 27)).heap.size g b 0) =>
      parse_do _ g z b w1 (by omega) (by omega) (hbox.below hb (by omega)) hR
    have hread := read_any (fun k => k = z) _ n c #[.pointer (some ⟨z, 0, none⟩)] _ (fun _ => rfl) A b _ (w.alloc (.cells #[.slice none 0 0] 27)) (fun k hk => by omega) hn (hr.below hba) (enter_of Tryz.func122 (by kernel_rfl) rfl) hdo
    have Hread := Lib.hid hread
    have Hba := Lib.hid hba
    clear hr hdo hread hbox hlen
    go_enter Tryz.func111, Tryz.ntmps111
    go_wp2_with fail
    refine Hread.out.mono ?_
    rintro e w4 ⟨x, w1, w3, rfl, hb1, ⟨hx, hR⟩, hb2, hb3⟩
    have hbw : Below w.heap.size w w4 := ⟨hb3.os.trans Hba.out.os, hb3.tape.trans Hba.out.tape, hb3.output.trans Hba.out.output, by have := hb3.size; omega, fun k hk => (hb3.block k (by omega) (by omega)).trans (Hba.out.block k hk)⟩
    have Hbw := Lib.hid hbw
    by_cases hx0 : x = 0
    · subst hx0
      obtain ⟨A4, m4, c4, os, hbox, hown, hownl⟩ := hR rfl
      have hle : z + 1 ≤ w1.heap.size := by have := hb1.size; omega
      have hbox4 := hbox.but hb2 (by omega)
      have hown4 := (hown.but hb2 (fun k e => by have := hown.at_ e; omega)).mono (B' := w.heap.size) (by omega)
      have hownl4 := (hownl.but hb2 (fun _ _ _ k h2 => by have := h2.at_ rfl; omega)).low (B' := w.heap.size) (by omega)
      have hc4 := hbox4.cell
      have Hown4 := Lib.hid hown4
      have Hownl4 := Lib.hid hownl4
      have Hx := Lib.hid hx
      clear hR hb1 hb2 hb3 hbw hbox hown hownl hbox4 hown4 hownl4 hx
      go_wp2_with fail
      go_ret2
      exact ⟨A4, m4, c4, os, by rw [Hp.out, ← Hx.out]; rfl, Hown4.out, by rw [Hp.out]; exact Hownl4.out, Hbw.out⟩
    · have hxn : (x != 0) = true := by simpa using hx0
      have Hx := Lib.hid hx
      have Hx0 := Lib.hid hx0
      clear hR hb1 hb2 hb3 hbw hx hx0
      go_wp2_with fail
      go_ret2
      have h1 : (parseL b).1 = [] := parseF_err _ _ (by have := Hx.out; have h := Hx0.out; unfold parseL at this; omega)
      exact ⟨none, 0, 0, [], by rw [Hp.out, ← Hx.out]; rfl, OwnO.nil _ _, by rw [Hp.out, h1]; trivial, Hbw.out⟩
end Go.Proofs.YtoegfgbalcholaaGreat

/-
  The contract of package opts' Put: whether options may be, and their bytes.
-/
namespace Go.Proofs.YtoegfgbalcholaaGreat
set_option maxRecDepth 10000
open Go.RowKit

theorem may1_any (kd : Int) (A : Option Addr) (n c : Nat) (w : World) :
    Calls Tryz.prog 127 #[.agg #[.int .u8 kd, .slice A n c]] w (OptBool (decide (kd = 0 ∨ kd = 1 ∨ 38 < n)) w) := by
  have hb : Below w.heap.size w (w.alloc (.cells #[.int .u8 kd, .slice A n c] 176)) := (Below.refl _ _).alloc (Nat.le_refl _) _
  have Hb := Lib.hid hb
  clear hb
  by_cases h0 : kd = 0
  · subst h0
    go_enter Tryz.func127, Tryz.ntmps127
    go_wp2_with fail
    go_ret
    exact ⟨by simp, Hb.out⟩
  · have h0' : (kd == 0) = false := by simpa using h0
    by_cases h1 : kd = 1
    · subst h1
      go_enter Tryz.func127, Tryz.ntmps127
      go_wp2_with fail
      go_ret
      exact ⟨by simp, Hb.out⟩
    · have h1' : (kd == 1) = false := by simpa using h1
      have Hx := Lib.hid (show decide (kd = 0 ∨ kd = 1 ∨ 38 < n) = decide (38 < (n : Int)) by simp [h0, h1]; omega)
      clear h0 h1
      go_enter Tryz.func127, Tryz.ntmps127
      go_wp2_with fail
      go_ret
      exact ⟨by rw [Hx.out]; rfl, Hb.out⟩

theorem badB_eq {kd : Int} {d : List Int} {n : Nat} (h0 : 0 ≤ kd) (hn : d.length = n) : decide (kd = 0 ∨ kd = 1 ∨ 38 < n) = badB (kd, d) := by
  unfold badB
  simp only [hn]
  by_cases h : kd < 2 <;> by_cases h2 : 38 < n <;> simp [h, h2] <;> omega

/-- Where the first is, of which a function says so, or -1. -/
def IdxIs (x : Bool) (w : World) (e : Ending) (w' : World) : Prop := ∃ i : Int, e = .returned (.int .i64 i) ∧ decide (0 ≤ i) = x ∧ Below w.heap.size w w'
theorem indexf_any (A : Option Addr) (n c : Nat) (os : List OptV) (ls : List (Int × List Int)) (w : World) (hn : n ≤ 140737488355328) (hr : RdO w A n os) (hs : Reads w os ls) :
    Calls Tryz.prog 128 #[.slice A n c, .func (.func 127) #[] #[]] w (IdxIs (ls.any badB) w) := by
  have Hl := Lib.hid (show ls.length = n by rw [← hs.len, hr.len])
  have Hr := Lib.hid hr
  have Hs := Lib.hid hs
  clear hr hs
  go_enter Tryz.func128, Tryz.ntmps128
  go_wp2_with fail
  go_loopg [8] n (fun gk i wr => ∃ j : Nat, Hid (gk + j = n) ∧ j ≤ n ∧ i = .int .i64 (j : Int) ∧ Hid ((ls.take j).any badB = false) ∧ Below w.heap.size w wr)
  case atStart => exact ⟨0, rfl, Nat.zero_le _, rfl, Lib.hid (by simp), Below.refl _ _⟩
  case round =>
    obtain ⟨j, hgk, hj, rfl, hno, hb⟩ := hrel
    by_cases hjn : j < n
    · have hjn := hjn
      obtain ⟨b1, p1, hrun1, hb1, hk0, hd0⟩ := Hr.out.index (c := c) hjn
      have o1 := Hs.out.get j (by rw [Hr.out.len]; exact hjn)
      obtain ⟨v1, ev1⟩ : ∃ v, os.getD j .none = v := ⟨_, rfl⟩
      obtain ⟨l1, el1⟩ : ∃ v, ls.getD j (0, []) = v := ⟨_, rfl⟩
      rw [ev1] at hk0 hd0 o1
      rw [el1] at o1
      obtain ⟨kd1, A1, n1, c1⟩ := v1
      obtain ⟨t1, d1⟩ := l1
      obtain ⟨rfl, hkb, hnc, hcm, r1⟩ := o1
      simp only at hk0 hd0 hkb hnc hcm r1
      have hk1 := (hb.cell (p := ⟨b1, p1, none⟩) hb1).trans hk0
      have hd1 := (hb.cell (p := ⟨b1, p1 + 1, none⟩) hb1).trans hd0
      have El1 := Lib.hid el1
      have Hd1 := Lib.hid r1.len
      have Hr1 := Lib.hid r1
      clear ev1 el1 r1 hk0 hd0
      have Hm := Lib.hid (may1_any kd1 A1 n1 c1 wr)
      rw [badB_eq hkb.1 Hd1.out] at Hm
      go_wp2_with fail
      refine Hm.out.mono ?_
      rintro e w2 ⟨rfl, hb2⟩
      have Hb2 := Lib.hid (hb.trans (hb2.mono hb.size))
      clear hb2
      by_cases hbad : badB (kd1, d1) = true
      · have Hany := Lib.hid (any_take (ls := ls) (j := j) (by rw [Hl.out]; exact hjn) (by rw [El1.out]; exact hbad))
        go_wp2_with fail
        go_ret
        exact ⟨j, rfl, by rw [Hany.out]; simp, Hb2.out⟩
      · have hbad' : badB (kd1, d1) = false := by simpa using hbad
        have Hno := Lib.hid (show (ls.take (j + 1)).any badB = false by rw [take_snoc_ ls j (0, []) (by rw [Hl.out]; exact hjn), List.any_append, hno.out, El1.out]; simp [hbad'])
        clear hbad
        go_wp2_with fail
        go_roundg (gk - 1)
        case measure => have := hgk.out; omega
        case rel => exact ⟨j + 1, by have := hgk.out; show gk - 1 + (j + 1) = _; omega, by omega, by go_num, Hno, Hb2.out⟩
    · obtain rfl : j = n := by omega
      have Hno := Lib.hid (show ls.any badB = false by have h := hno.out; rwa [List.take_of_length_le (by rw [Hl.out]; omega)] at h)
      go_wp2_with fail
      go_ret
      exact ⟨-1, rfl, by rw [Hno.out]; rfl, hb⟩

theorem containsf_any (A : Option Addr) (n c : Nat) (os : List OptV) (ls : List (Int × List Int)) (w : World) (hn : n ≤ 140737488355328) (hr : RdO w A n os) (hs : Reads w os ls) :
    Calls Tryz.prog 126 #[.slice A n c, .func (.func 127) #[] #[]] w (OptBool (ls.any badB) w) := by
  have Hi := Lib.hid (indexf_any A n c os ls w hn hr hs)
  clear hr hs
  go_enter Tryz.func126, Tryz.ntmps126
  go_wp2_with fail
  refine Hi.out.mono ?_
  rintro e w2 ⟨i, rfl, hx, hb⟩
  have Hx := Lib.hid hx
  have Hb := Lib.hid hb
  clear hx hb
  go_wp2_with fail
  go_ret
  exact ⟨by rw [← Hx.out]; rfl, Hb.out⟩

theorem mayall_any (A : Option Addr) (n c : Nat) (os : List OptV) (ls : List (Int × List Int)) (w : World) (hn : n ≤ 140737488355328) (hr : RdO w A n os) (hs : Reads w os ls) :
    Calls Tryz.prog 125 #[.slice A n c] w (OptBool (!ls.any badB) w) := by
  have Hi := Lib.hid (containsf_any A n c os ls w hn hr hs)
  clear hr hs
  go_enter Tryz.func125, Tryz.ntmps125
  go_wp2_with fail
  refine Hi.out.mono ?_
  rintro e w2 ⟨rfl, hb⟩
  have Hb := Lib.hid hb
  clear hb
  go_wp2_with fail
  go_ret
  exact ⟨rfl, Hb.out⟩

theorem bytesO_two (ls : List (Int × List Int)) : 2 * ls.length ≤ (bytesO ls).length := by
  induction ls with
  | nil => simp
  | cons l ls ih => simp only [bytesO, List.flatMap_cons, List.length_append, List.length_cons, bytesOne, List.length_nil] at ih ⊢; omega
theorem put_any (A : Option Addr) (n c : Nat) (os : List OptV) (ls : List (Int × List Int)) (w : World) (hn : n ≤ 140737488355328) (hr : RdO w A n os) (hs : Reads w os ls) :
    Calls Tryz.prog 117 #[.slice A n c] w (PutO ls w) := by
  have Hm := Lib.hid (mayall_any A n c os ls w hn hr hs)
  have Hl := Lib.hid (show ls.length = n by rw [← hs.len, hr.len])
  have Hr := Lib.hid hr
  have Hs := Lib.hid hs
  clear hr hs
  go_enter Tryz.func117, Tryz.ntmps117
  go_wp2_with fail
  refine Hm.out.mono ?_
  rintro e w2 ⟨rfl, hb⟩
  by_cases hany : ls.any badB = true
  · have Hany := Lib.hid hany
    have hany2 : (!ls.any badB) = false := by rw [hany]; rfl
    rw [hany2]
    clear hany hany2
    go_wp2_with fail
    go_ret2
    unfold PutO
    rw [if_pos Hany.out]
    exact ⟨rfl, hb⟩
  · have hany' : ls.any badB = false := by simpa using hany
    have Hany := Lib.hid hany
    have hany2 : (!ls.any badB) = true := by rw [hany']; rfl
    have hall : ∀ j, j < n → (ls.getD j (0, [])).2.length ≤ 38 := by
      intro j hj
      rw [List.any_eq_false] at hany'
      have hlt : j < ls.length := by rw [Hl.out]; exact hj
      have hm : ls.getD j (0, []) ∈ ls := by simp only [List.getD, List.getElem?_eq_getElem hlt, Option.getD_some]; exact List.getElem_mem _
      exact (badB_false (by simpa using hany' _ hm)).2
    have Hall := Lib.hid hall
    have Hmem := Lib.hid (show ∀ l ∈ ls, l.2.length ≤ 38 from fun l hl => (badB_false (by rw [List.any_eq_false] at hany'; simpa using hany' l hl)).2)
    rw [hany2]
    clear hany hany' hany2 hall
    go_wp2_with fail
    go_loopg [4, 15] n (fun gk lo i wr => ∃ (j m2 : Nat), Hid (gk + j = n) ∧ j ≤ n ∧ m2 ≤ 40 * j ∧ lo = .int .i64 (m2 : Int) ∧ i = .int .i64 (j : Int) ∧ Hid ((bytesO (ls.take j)).length = m2) ∧ Below w.heap.size w wr)
    case atStart => exact ⟨0, 0, rfl, Nat.zero_le _, Nat.le_refl _, rfl, rfl, Lib.hid (by simp [bytesO]), hb⟩
    case round =>
      clear hb
      obtain ⟨j, m2, hgk, hj, hmj, rfl, rfl, hm2, hb⟩ := hrel
      by_cases hjn : j < n
      · have hjn := hjn
        obtain ⟨b1, p1, hrun1, hb1, hk0, hd0⟩ := Hr.out.index (c := c) hjn
        have o1 := Hs.out.get j (by rw [Hr.out.len]; exact hjn)
        obtain ⟨v1, ev1⟩ : ∃ v, os.getD j .none = v := ⟨_, rfl⟩
        obtain ⟨l1, el1⟩ : ∃ v, ls.getD j (0, []) = v := ⟨_, rfl⟩
        rw [ev1] at hk0 hd0 o1
        rw [el1] at o1
        obtain ⟨kd1, A1, n1, c1⟩ := v1
        obtain ⟨t1, d1⟩ := l1
        obtain ⟨rfl, hkb, hnc, hcm, r1⟩ := o1
        simp only at hk0 hd0 hkb hnc hcm r1
        have hk1 := (hb.cell (p := ⟨b1, p1, none⟩) hb1).trans hk0
        have hd1 := (hb.cell (p := ⟨b1, p1 + 1, none⟩) hb1).trans hd0
        have El1 := Lib.hid el1
        have Hd1 := Lib.hid r1.len
        have Hr1 := Lib.hid r1
        clear ev1 el1 r1 hk0 hd0
        have h38 : n1 ≤ 38 := by have h := Hall.out j hjn; rw [El1.out] at h; have := Hd1.out; simp only at h; omega
        have hw1 : IntKind.i64.wrap (2 + (n1 : Int)) = 2 + (n1 : Int) := IntWalk.i64_in _ (by omega)
        have hw2 : IntKind.i64.wrap ((m2 : Int) + (2 + (n1 : Int))) = (m2 : Int) + (2 + (n1 : Int)) := IntWalk.i64_in _ (by omega)
        have Hsn := Lib.hid (show (bytesO (ls.take (j + 1))).length = m2 + (2 + n1) by
          have := Hd1.out
          rw [take_snoc_ ls j (0, []) (by rw [Hl.out]; exact hjn), bytesO_snoc, List.length_append, hm2.out, El1.out]; simp [bytesOne]; omega)
        go_wp2_with fail
        go_roundg (gk - 1)
        case measure => have := hgk.out; omega
        case rel => exact ⟨j + 1, m2 + (2 + n1), by have := hgk.out; show gk - 1 + (j + 1) = _; omega, by omega, by omega, by go_num, by go_num, Hsn, hb.alloc hb.size _⟩
      · obtain rfl : n = j := by omega
        have hlen2 : (bytesO ls).length = m2 := by have h := hm2.out; rwa [List.take_of_length_le (by rw [Hl.out]; omega)] at h
        have Hlen2 := Lib.hid hlen2
        clear hlen2 hm2
        by_cases hlong : 40 < m2
        · have hli : 40 < (m2 : Int) := by omega
          go_wp2_with fail
          go_ret2
          unfold PutO
          rw [if_neg Hany.out, if_pos (by rw [Hlen2.out]; exact hlong)]
          exact ⟨rfl, hb⟩
        · have hli : (m2 : Int) ≤ 40 := by omega
          have hn20 : n ≤ 20 := by have h := bytesO_two ls; rw [Hlen2.out, Hl.out] at h; omega
          clear hn
          go_wp2_with fail
          go_loopg [7, 30] n (fun gk b i wr => ∃ (j m3 : Nat) (A2 : Option Addr) (c2 : Nat), Hid (gk + j = n) ∧ j ≤ n ∧ m3 ≤ 40 * j ∧ b = .slice A2 m3 c2 ∧ i = .int .i64 (j : Int) ∧ Hid (OwnB wr w.heap.size A2 m3 c2 (bytesO (ls.take j))) ∧ Below w.heap.size w wr)
          case atStart => exact ⟨0, 0, none, 0, rfl, Nat.zero_le _, Nat.le_refl _, rfl, rfl, Lib.hid (by simpa [bytesO] using OwnB.nil wr w.heap.size), hb⟩
          case round =>
            clear hb hgk
            obtain ⟨j, m3, A2, c2, hgk, hj, hmj3, rfl, rfl, hown, hb⟩ := hrel
            by_cases hjn : j < n
            · have hjn := hjn
              obtain ⟨b1, p1, hrun1, hb1, hk0, hd0⟩ := Hr.out.index (c := c) hjn
              have o1 := Hs.out.get j (by rw [Hr.out.len]; exact hjn)
              obtain ⟨v1, ev1⟩ : ∃ v, os.getD j .none = v := ⟨_, rfl⟩
              obtain ⟨l1, el1⟩ : ∃ v, ls.getD j (0, []) = v := ⟨_, rfl⟩
              rw [ev1] at hk0 hd0 o1
              rw [el1] at o1
              obtain ⟨kd1, A1, n1, c1⟩ := v1
              obtain ⟨t1, d1⟩ := l1
              obtain ⟨rfl, hkb, hnc, hcm, r1⟩ := o1
              simp only at hk0 hd0 hkb hnc hcm r1
              have hk1 := (hb.cell (p := ⟨b1, p1, none⟩) hb1).trans hk0
              have hd1 := (hb.cell (p := ⟨b1, p1 + 1, none⟩) hb1).trans hd0
              have El1 := Lib.hid el1
              have Hd1 := Lib.hid r1.len
              have Hr1 := Lib.hid r1
              clear ev1 el1 r1 hk0 hd0
              have h38 : n1 ≤ 38 := by have h := Hall.out j hjn; rw [El1.out] at h; have := Hd1.out; simp only at h; omega
              have hw8 : IntKind.u8.wrap (2 + (n1 : Int)) = 2 + (n1 : Int) := by simp [IntKind.wrap, IntKind.bits, IntKind.signed]; omega
              have hw1 : IntKind.i64.wrap (2 + (n1 : Int)) = 2 + (n1 : Int) := IntWalk.i64_in _ (by omega)
              have Hbo := Lib.hid (show ∀ x ∈ bytesO (ls.take j), 0 ≤ x ∧ x < 256 from bytesO_bytes (fun l hl => Hs.out.byte l (List.mem_of_mem_take hl)) (fun l hl => Hmem.out l (List.mem_of_mem_take hl)))
              obtain ⟨g1, eg1⟩ : ∃ g1, wr.heap.size = g1 := ⟨_, rfl⟩
              have hblk := heap_alloc_new wr (.cells #[.int .u8 kd1, .slice A1 n1 c1] 176)
              rw [eg1] at hblk
              have hba : Below wr.heap.size wr (wr.alloc (.cells #[.int .u8 kd1, .slice A1 n1 c1] 176)) := (Below.refl _ _).alloc (Nat.le_refl _) _
              have Hu := Lib.hid (u8_lays A2 m3 c2 _ kd1 (wr.alloc (.cells #[.int .u8 kd1, .slice A1 n1 c1] 176)) hkb ⟨hown.out.cap, hown.out.capMax⟩ (by omega) ((hown.out.rd Hbo.out).below hba))
              have Hblk := Lib.hid hblk
              have Hba := Lib.hid (hb.trans (hba.mono hb.size))
              have hg1 : w.heap.size ≤ g1 := by have := hb.size; omega
              clear hblk hba
              go_wp2_with fail
              refine Hu.out.mono ?_
              rintro e w3 ⟨A3, c3, rfl, h31, h32, hown3, hb3⟩
              have hblk3 := blk_on Hblk.out hb3
              have Hbo3 := Lib.hid (show ∀ x ∈ bytesO (ls.take j) ++ [kd1], 0 ≤ x ∧ x < 256 from bytes_app_ Hbo.out (by simpa using hkb))
              have Hu3 := Lib.hid (u8_lays A3 (m3 + 1) c3 _ (2 + (n1 : Int)) w3 (by omega) ⟨h31, h32⟩ (by omega) (hown3.rd Hbo3.out))
              have c30 := blk_cell hblk3 0
              have c31 := blk_cell hblk3 1
              have Hblk3 := Lib.hid hblk3
              have Hb3 := Lib.hid (Hba.out.trans (hb3.mono Hba.out.size))
              clear hblk3 hown3 hb3
              go_wp2_with fail
              refine Hu3.out.mono ?_
              rintro e w4 ⟨A4, c4, rfl, h41, h42, hown4, hb4⟩
              have hblk4 := blk_on Hblk3.out hb4
              have c40 := blk_cell hblk4 0
              have c41 := blk_cell hblk4 1
              have Hb4 := Lib.hid (Hb3.out.trans (hb4.mono Hb3.out.size))
              have Hown4 := Lib.hid (hown4.mono Hb3.out.size)
              have Hr4 := Lib.hid (Hr1.out.below Hb4.out)
              clear hblk4 hown4 hb4 c30 c31
              go_wp2_with (refine wpList_app rfl (.tmp 45) (.tmp 47) rfl w.heap.size A4 A1 (m3 + 1 + 1) c4 n1 c1 _ d1 rfl rfl Hown4.out Hr4.out (by omega) Hb4.out.size ?_; intro A5 c5 w5 hown5 _ hb5 _)
              go_roundg (gk - 1)
              case measure => have := hgk.out; omega
              case rel => exact ⟨j + 1, m3 + 1 + 1 + n1, A5, c5, by have := hgk.out; show gk - 1 + (j + 1) = _; omega, by omega, by omega, rfl, by go_num, Lib.hid (by
                rw [take_snoc_ ls j (0, []) (by rw [Hl.out]; exact hjn), bytesO_snoc, El1.out, show bytesOne (kd1, d1) = [kd1] ++ [2 + (n1 : Int)] ++ d1 by unfold bytesOne; rw [Hd1.out]; rfl, ← List.append_assoc, ← List.append_assoc]; exact hown5), Hb4.out.trans hb5⟩
            · obtain rfl : n = j := by omega
              have ho := hown.out
              rw [List.take_of_length_le (by rw [Hl.out]; omega)] at ho
              have hm3 : m3 = m2 := by rw [← ho.len, Hlen2.out]
              subst hm3
              obtain ⟨B0, eB⟩ : ∃ B0, bytesO ls = B0 := ⟨_, rfl⟩
              rw [eB] at ho Hlen2
              have HB0 := Lib.hid (show ∀ x ∈ B0, 0 ≤ x ∧ x < 256 from by rw [← eB]; exact bytesO_bytes (fun l hl => Hs.out.byte l hl) Hmem.out)
              have EB := Lib.hid eB
              have Ho := Lib.hid ho
              clear ho eB hown
              obtain ⟨P, eP⟩ : ∃ P, (4 - m3 % 4) % 4 = P := ⟨_, rfl⟩
              have EP := Lib.hid eP
              have hP : P < 4 := by omega
              clear eP
              go_wp2_with fail
              go_loopg [7] P (fun gk b wr => ∃ (t : Nat) (A3 : Option Addr) (c3 : Nat), Hid (gk + t = P) ∧ t ≤ P ∧ b = .slice A3 (m3 + t) c3 ∧ Hid (OwnB wr w.heap.size A3 (m3 + t) c3 (B0 ++ List.replicate t 0)) ∧ Below w.heap.size w wr)
              case atStart => exact ⟨0, A2, c2, rfl, Nat.zero_le _, rfl, Lib.hid (by simpa using Ho.out), hb⟩
              case round =>
                clear hb hgk
                obtain ⟨t, A3, c3, hgt, ht, rfl, hown3, hb3⟩ := hrel
                have hp := EP.out
                by_cases htP : t < P
                · have hmod : ((m3 + t : Nat) : Int) % 4 ≠ 0 := by omega
                  have hmod2 : (((m3 + t : Nat) : Int) % 4 == 0) = false := by simpa using hmod
                  have hmod3 : (((m3 + t : Nat) : Int) % 4 != 0) = true := by simpa using hmod
                  have Hu := Lib.hid (u8_lays A3 (m3 + t) c3 _ 0 wr (by omega) ⟨hown3.out.cap, hown3.out.capMax⟩ (by omega) (hown3.out.rd (bytes_app_ HB0.out (fun x hx => by rw [List.eq_of_mem_replicate hx]; omega))))
                  clear hmod hp
                  go_wp2_with fail
                  refine Hu.out.mono ?_
                  rintro e w4 ⟨A4, c4, rfl, h41, h42, hown4, hb4⟩
                  have Hb4 := Lib.hid (hb3.trans (hb4.mono hb3.size))
                  have Hown4 := Lib.hid (hown4.mono hb3.size)
                  clear hown4 hb4
                  go_wp2_with fail
                  go_roundg (gk - 1)
                  case measure => have := hgt.out; omega
                  case rel => exact ⟨t + 1, A4, c4, by have := hgt.out; show gk - 1 + (t + 1) = _; omega, by omega, rfl, Lib.hid (by rw [List.replicate_succ', ← List.append_assoc]; exact Hown4.out), Hb4.out⟩
                · obtain rfl : t = P := by omega
                  have hmod : ((m3 + t : Nat) : Int) % 4 = 0 := by omega
                  have hmod2 : (((m3 + t : Nat) : Int) % 4 == 0) = true := by simpa using hmod
                  have hmod3 : (((m3 + t : Nat) : Int) % 4 != 0) = false := by simpa using hmod
                  clear hmod hp
                  go_wp2_with fail
                  go_ret2
                  unfold PutO
                  rw [if_neg Hany.out, EB.out, if_neg (by rw [Hlen2.out]; exact hlong)]
                  have e : padTo4 B0 = B0 ++ List.replicate t 0 := by unfold padTo4; rw [Hlen2.out, EP.out]
                  have el : (padTo4 B0).length = m3 + t := by rw [e, List.length_append, Hlen2.out, List.length_replicate]
                  rw [el, e]
                  exact ⟨A3, c3, rfl, hown3.out, hb3⟩
end Go.Proofs.YtoegfgbalcholaaGreat
