/-
  Texts laid together: RefLay, RefNum, OptRead.
-/
import Derived.Test.YtheknmihnkennaaGreatZC11
import Derived.Test.YtheknmihnkennaaGreatZC08
import Derived.Test.YtheknmihnkennaaGreatZC10
import Derived.WalkMore

/-
  The contracts of culvertref03's Lay (four bytes) and of culvertref05's WithSacks.
-/
namespace Go.Proofs.YtheknmihnkennaaGreat
set_option maxRecDepth 10000
open Go.RowKit

theorem bytes_app_ {a b : List Int} (h : ∀ x ∈ a, 0 ≤ x ∧ x < 256) (k : ∀ x ∈ b, 0 ≤ x ∧ x < 256) : ∀ x ∈ a ++ b, 0 ≤ x ∧ x < 256 := fun x hx => by
  rcases List.mem_append.1 hx with h' | h'
  · exact h x h'
  · exact k x h'
theorem own_ne {w : World} {B n c g : Nat} {A : Option Addr} {l : List Int} {cs : Array Value} (h : OwnB w B A n c l) (hg : w.heap[g]? = some (.cells cs 142 (0, 0))) : ∀ k, A = some ⟨k, 0, none⟩ → k ≠ g := by
  intro k e he
  subst he
  rcases h.2 with ⟨e1, _⟩ | ⟨g', cap, cur, e1, _, hb, _⟩
  · injection e1 with e1 _ _; rw [e] at e1; cases e1
  · injection e1 with e1 _ _
    rw [e] at e1
    injection e1 with e1
    injection e1 with e1 _
    subst e1
    rw [hg] at hb
    injection hb with hb
    injection hb with _ hb _
    exact absurd hb (by decide)
theorem OwnB.butA {S : Nat → Prop} {w w' : World} {B : Nat} {A : Option Addr} {n c : Nat} {l : List Int} (h : OwnB w B A n c l) (hb : But S w w') (hS : ∀ k, A = some ⟨k, 0, none⟩ → ¬ S k) : OwnB w' B A n c l := by
  refine ⟨h.1, ?_⟩
  rcases h.2 with h0 | ⟨g, cap, cur, e, hB, hc, hrest⟩
  · exact .inl h0
  · exact .inr ⟨g, cap, cur, e, hB, hb.blk hc (hS g (by injection e)), hrest⟩

end Go.Proofs.YtheknmihnkennaaGreat

/-
  The contracts of culvertref03's reader (take, Num of four bytes) and of culvertref05's Sacks.
-/
namespace Go.Proofs.YtheknmihnkennaaGreat
set_option maxRecDepth 10000
open Go.RowKit

theorem OwnK.butA {S : Nat → Prop} {t : TypeId} {w w' : World} {B : Nat} {A : Option Addr} {n c : Nat} {l : List (Int × Int)} (h : OwnK t w B A n c l) (hb : But S w w') (hS : ∀ k, A = some ⟨k, 0, none⟩ → ¬ S k) : OwnK t w' B A n c l := by
  refine ⟨h.1, ?_⟩
  rcases h.2 with h0 | ⟨g, cap, cur, e, hB, hc, hrest⟩
  · exact .inl h0
  · exact .inr ⟨g, cap, cur, e, hB, hb.blk hc (hS g (by injection e)), hrest⟩
theorem OwnK.blk {t : TypeId} {w : World} {B n c : Nat} {A : Option Addr} {l : List (Int × Int)} (h : OwnK t w B A n c l) : ∀ k, Blk A k → B ≤ k ∧ A = some ⟨k, 0, none⟩ := by
  rintro k ⟨a, e, rfl⟩
  subst e
  rcases h.2 with ⟨e1, _⟩ | ⟨g', cap, cur, e1, hB, _⟩
  · injection e1 with e1 _ _; cases e1
  · injection e1 with e1 _ _
    injection e1 with e1
    subst e1
    exact ⟨hB, rfl⟩
end Go.Proofs.YtheknmihnkennaaGreat

/-
  The contracts of package opts' Parse: filling, option, the closure that reads, Parse.
-/
namespace Go.Proofs.YtheknmihnkennaaGreat
set_option maxRecDepth 10000
open Go.RowKit

theorem OwnB.at_ {w : World} {B : Nat} {A : Option Addr} {n c k : Nat} {l : List Int} (h : OwnB w B A n c l) (hA : A = some ⟨k, 0, none⟩) : B ≤ k ∧ k < w.heap.size := by
  rcases h.2 with ⟨e, _⟩ | ⟨g, cap, cur, e, hB, hg, _⟩
  · injection e with e _ _; rw [hA] at e; cases e
  · injection e with e _ _
    rw [hA] at e
    injection e with e
    injection e with e _
    subst e
    exact ⟨hB, lt_of_block hg⟩

theorem filling_ok (B g : Nat) (l : List Int) (at_ : Int) (w : World) (hl : l.length ≤ 100) (hz : l.all (fun x => x == 0) = true) (h : Rdr w B g l at_) :
    Calls Tryz.prog 109 #[.pointer (some ⟨g, 0, none⟩)] w fun e w' => e = .returned (.tuple #[]) ∧ Rdr w' B g [] (at_ + l.length) ∧ But (fun k => k = g) w w' := by
  obtain ⟨k, hk⟩ : ∃ k, l.length = k := ⟨_, rfl⟩
  have Hz := Lib.hid hz
  have hby := h.bytes
  have Hr := Lib.hid (rest_is B g k l at_ w hk (by omega) h)
  rw [hk]
  have Hk := Lib.hid hk
  have Hby := Lib.hid hby
  have hk100 : k ≤ 100 := by omega
  clear h hz hk hby hl
  go_enter Tryz.func109, Tryz.ntmps109
  go_wp2_with fail
  refine Hr.out.mono ?_
  rintro e w1 ⟨A, c, rfl, hkc, hcm, hown, hR, hb⟩
  have Hrd := Lib.hid (hown.rd Hby.out)
  have HR := Lib.hid hR
  have Hb := Lib.hid hb
  clear hown hR hb
  go_wp2_with fail
  go_loopg [7] k (fun gk i wr => ∃ j : Nat, Hid (gk + j = k) ∧ j ≤ k ∧ i = .int .i64 (j : Int) ∧ wr = w1)
  case atStart => exact ⟨0, rfl, Nat.zero_le _, rfl, rfl⟩
  case round =>
    obtain ⟨j, hgk, hj, rfl, rfl⟩ := hrel
    by_cases hjk : j < k
    · obtain ⟨p, hi, hc, hpb⟩ := Hrd.out.index (c := c) hjk
      have h0 : l.getD j 0 = 0 := by
        have h2 := Hz.out
        rw [List.all_eq_true] at h2
        have h3 := h2 (l.getD j 0) (by have := Hk.out; simp only [List.getD, List.getElem?_eq_getElem (show j < l.length by omega), Option.getD_some]; exact List.getElem_mem _)
        simpa using h3
      rw [h0] at hc
      clear h0
      go_wp2_with fail
      go_roundg (gk - 1)
      case measure => have := hgk.out; omega
      case rel => exact ⟨j + 1, by have := hgk.out; show gk - 1 + (j + 1) = _; omega, by omega, by go_num, rfl⟩
    · obtain rfl : j = k := by omega
      go_wp2_with fail
      go_end0
      exact ⟨rfl, HR.out, Hb.out⟩

theorem filling_bad (B g : Nat) (l : List Int) (at_ : Int) (w : World) (hl : l.length ≤ 100) (hz : ¬ l.all (fun x => x == 0) = true) (h : Rdr w B g l at_) :
    Calls Tryz.prog 109 #[.pointer (some ⟨g, 0, none⟩)] w (GivesUp g 5 w) := by
  obtain ⟨k, hk⟩ : ∃ k, l.length = k := ⟨_, rfl⟩
  have Hz := Lib.hid hz
  have hby := h.bytes
  have Hr := Lib.hid (rest_is B g k l at_ w hk (by omega) h)
  have Hk := Lib.hid hk
  have Hby := Lib.hid hby
  have hk100 : k ≤ 100 := by omega
  clear h hz hk hby hl
  go_enter Tryz.func109, Tryz.ntmps109
  go_wp2_with fail
  refine Hr.out.mono ?_
  rintro e w1 ⟨A, c, rfl, hkc, hcm, hown, hR, hb⟩
  have Hrd := Lib.hid (hown.rd Hby.out)
  have HR := Lib.hid hR
  have Hb := Lib.hid hb
  clear hown hR hb
  go_wp2_with fail
  go_loopg [7] k (fun gk i wr => ∃ j : Nat, Hid (gk + j = k) ∧ j ≤ k ∧ i = .int .i64 (j : Int) ∧ Hid ((l.take j).all (fun x => x == 0) = true) ∧ wr = w1)
  case atStart => exact ⟨0, rfl, Nat.zero_le _, rfl, Lib.hid (by simp), rfl⟩
  case round =>
    obtain ⟨j, hgk, hj, rfl, hall, rfl⟩ := hrel
    by_cases hjk : j < k
    · obtain ⟨p, hi, hc, hpb⟩ := Hrd.out.index (c := c) hjk
      obtain ⟨y, ey⟩ : ∃ y, l.getD j 0 = y := ⟨_, rfl⟩
      rw [ey] at hc
      have Ey := Lib.hid ey
      clear ey
      by_cases hy : y = 0
      · subst hy
        go_wp2_with fail
        go_roundg (gk - 1)
        case measure => have := hgk.out; omega
        case rel => exact ⟨j + 1, by have := hgk.out; show gk - 1 + (j + 1) = _; omega, by omega, by go_num, Lib.hid (by rw [take_snoc_ l j 0 (by rw [Hk.out]; exact hjk), List.all_append, hall.out, Ey.out]; rfl), rfl⟩
      · have hy2 : (y != 0) = true := by simpa using hy
        have Hf := Lib.hid (fail_any B g 5 [] (at_ + k) _ (by decide) HR.out)
        clear hy
        go_wp2_with fail
        refine Hf.out.mono ?_
        rintro e w2 ⟨rfl, hg, hb2⟩
        exact ⟨rfl, rfl, hg, Hb.out.trans hb2⟩
    · obtain rfl : j = k := by omega
      exact absurd (by have h2 := hall.out; rwa [List.take_of_length_le (by rw [Hk.out]; omega)] at h2) Hz.out

/-- What is wrong with what stands behind an option's kind. -/
def optErr : List Int → Int
  | [] => 4
  | n :: r => if n < 2 then 5 else if (r.length : Int) + 2 < n then 4 else 0

theorem parseL_bad (x : Int) (r : List Int) (h0 : x ≠ 0) (h1 : x ≠ 1) (he : optErr r ≠ 0) : parseL (x :: r) = ([], optErr r) := by
  cases r with
  | nil => exact parseL_end x h0 h1
  | cons n r =>
    rw [parseL_opt x n r h0 h1]
    simp only [optErr] at he ⊢
    by_cases hn : n < 2
    · rw [if_pos hn, if_pos hn]
    · rw [if_neg hn, if_neg hn]
      rw [if_neg hn] at he
      by_cases hs : (r.length : Int) + 2 < n
      · rw [if_pos hs, if_pos hs]
      · rw [if_neg hs] at he; exact absurd rfl he
theorem parseL_good (x : Int) (d : Nat) (D rest : List Int) (h0 : x ≠ 0) (h1 : x ≠ 1) (hd : D.length = d) : parseL (x :: (2 + (d : Int)) :: (D ++ rest)) = behindO [(x, D)] (parseL rest) := by
  rw [parseL_opt _ _ _ h0 h1, if_neg (by omega), if_neg (by rw [List.length_append]; omega), show (2 + (d : Int) - 2).toNat = d by omega, List.take_left' hd, List.drop_left' hd]
theorem optErr_zero {r : List Int} (h : optErr r = 0) : ∃ (d : Nat) (D rest : List Int), r = (2 + (d : Int)) :: (D ++ rest) ∧ D.length = d := by
  cases r with
  | nil => simp [optErr] at h
  | cons n r =>
    simp only [optErr] at h
    by_cases hn : n < 2
    · rw [if_pos hn] at h; cases h
    · rw [if_neg hn] at h
      by_cases hs : (r.length : Int) + 2 < n
      · rw [if_pos hs] at h; cases h
      · exact ⟨(n - 2).toNat, r.take (n - 2).toNat, r.drop (n - 2).toNat, by rw [List.take_append_drop]; congr 1; omega, by rw [List.length_take]; omega⟩

theorem gives_alloc {g : Nat} {x : Int} {w : World} {o : Obj} {e : Ending} {w' : World} (h : GivesUp g x (w.alloc o) e w') : GivesUp g x w e w' :=
  ⟨h.1, h.2.1, (But.of ((Below.refl _ _).alloc (Nat.le_refl _) o)).trans h.2.2⟩

theorem option_none (B g : Nat) (kd : Int) (at_ : Int) (w : World) (h : Rdr w B g [] at_) :
    Calls Tryz.prog 108 #[.pointer (some ⟨g, 0, none⟩), .int .u8 kd] w (GivesUp g 4 w) := by
  have Hu := Lib.hid (u8_short B g [] at_ (w.alloc (.cells #[.int .u8 0, .slice none 0 0] 142)) (by simp) (h.below ((Below.refl _ _).alloc (Nat.le_refl _) _)))
  clear h
  go_enter Tryz.func108, Tryz.ntmps108
  go_wp2_with fail
  refine Hu.out.mono ?_
  rintro e w' ⟨rfl, h⟩
  exact ⟨rfl, gives_alloc (e := .panicked (gaveUp g)) ⟨rfl, h⟩⟩

theorem option_few (B g : Nat) (kd n : Int) (r : List Int) (at_ : Int) (w : World) (hn : n < 2) (h : Rdr w B g (n :: r) at_) :
    Calls Tryz.prog 108 #[.pointer (some ⟨g, 0, none⟩), .int .u8 kd] w (GivesUp g 5 w) := by
  have hn0 := h.bytes n (by simp)
  have Hu := Lib.hid (u8_told B g n r at_ (w.alloc (.cells #[.int .u8 0, .slice none 0 0] 142)) (h.below ((Below.refl _ _).alloc (Nat.le_refl _) _)))
  clear h
  go_enter Tryz.func108, Tryz.ntmps108
  go_wp2_with fail
  refine Hu.out.mono ?_
  rintro e w1 ⟨rfl, hR, hb⟩
  have Hf := Lib.hid (fail_any B g 5 r (at_ + 1) w1 (by decide) hR)
  have Hb := Lib.hid hb
  clear hR hb
  go_wp2_with fail
  refine Hf.out.mono ?_
  rintro e w2 ⟨rfl, hg, hb2⟩
  exact ⟨rfl, gives_alloc (e := .panicked (gaveUp g)) ⟨rfl, hg, Hb.out.trans hb2⟩⟩

theorem option_short (B g : Nat) (kd n : Int) (r : List Int) (at_ : Int) (w : World) (hn : 2 ≤ n) (hs : (r.length : Int) + 2 < n) (h : Rdr w B g (n :: r) at_) :
    Calls Tryz.prog 108 #[.pointer (some ⟨g, 0, none⟩), .int .u8 kd] w (GivesUp g 4 w) := by
  have hn0 := h.bytes n (by simp)
  have Hu := Lib.hid (u8_told B g n r at_ (w.alloc (.cells #[.int .u8 0, .slice none 0 0] 142)) (h.below ((Below.refl _ _).alloc (Nat.le_refl _) _)))
  have hw1 : IntKind.i64.wrap (n - 2) = n - 2 := IntWalk.i64_in _ (by omega)
  have Hs := Lib.hid hs
  clear h hs
  go_enter Tryz.func108, Tryz.ntmps108
  go_wp2_with fail
  refine Hu.out.mono ?_
  rintro e w1 ⟨rfl, hR, hb⟩
  have Hf := Lib.hid (bytes_short B g (n - 2) r (at_ + 1) w1 (by have := Hs.out; omega) hR)
  have Hb := Lib.hid hb
  clear hR hb
  go_wp2_with fail
  refine Hf.out.mono ?_
  rintro e w2 ⟨rfl, hg, hb2⟩
  exact ⟨rfl, gives_alloc (e := .panicked (gaveUp g)) ⟨rfl, hg, Hb.out.trans hb2⟩⟩

theorem option_bad (B g : Nat) (kd x : Int) (l : List Int) (at_ : Int) (w : World) (hx : optErr l = x) (hx0 : x ≠ 0) (h : Rdr w B g l at_) :
    Calls Tryz.prog 108 #[.pointer (some ⟨g, 0, none⟩), .int .u8 kd] w (GivesUp g x w) := by
  subst hx
  cases l with
  | nil => exact option_none B g kd at_ w h
  | cons n r =>
    simp only [optErr] at hx0 ⊢
    by_cases h1 : n < 2
    · rw [if_pos h1]; exact option_few B g kd n r at_ w h1 h
    · rw [if_neg h1] at hx0 ⊢
      by_cases h2 : (r.length : Int) + 2 < n
      · rw [if_pos h2]; exact option_short B g kd n r at_ w (by omega) h2 h
      · rw [if_neg h2] at hx0; exact absurd rfl hx0

/-- An option is told: its Data in memory of its own. -/
def OptionIs (B g d : Nat) (kd : Int) (D rest : List Int) (w : World) (e : Ending) (w' : World) : Prop :=
  ∃ A c at_, e = .returned (.agg #[.int .u8 kd, .slice A d c]) ∧ OwnB w' w.heap.size A d c D ∧ Rdr w' B g rest at_ ∧ But (fun k => k = g) w w'
theorem option_good (B g d : Nat) (kd : Int) (D rest : List Int) (at_ : Int) (w : World) (hd : D.length = d) (hl : D.length + rest.length ≤ 100) (h : Rdr w B g ((2 + (d : Int)) :: (D ++ rest)) at_) :
    Calls Tryz.prog 108 #[.pointer (some ⟨g, 0, none⟩), .int .u8 kd] w (OptionIs B g d kd D rest w) := by
  have hn0 := h.bytes (2 + (d : Int)) (by simp)
  have hr0 := heap_alloc_new w (.cells #[.int .u8 0, .slice none 0 0] 142)
  have hgl : g < w.heap.size := by
    obtain ⟨A, n, c, _, _, _, _, _, hg, _⟩ := h
    exact lt_of_block hg
  have Hu := Lib.hid (u8_told B g (2 + (d : Int)) (D ++ rest) at_ (w.alloc (.cells #[.int .u8 0, .slice none 0 0] 142)) (h.below ((Below.refl _ _).alloc (Nat.le_refl _) _)))
  have hw1 : IntKind.i64.wrap (2 + (d : Int) - 2) = (d : Int) := by rw [show (2 + (d : Int) - 2) = d by omega]; exact IntWalk.i64_in _ (by omega)
  have Hd := Lib.hid hd
  have HD : Hid (∀ x ∈ D, 0 ≤ x ∧ x < 256) := fun x hx => h.bytes x (by simp [hx])
  have Hl := Lib.hid hl
  unfold OptionIs
  clear h hl hd
  obtain ⟨z, hz⟩ : ∃ z, w.heap.size = z := ⟨_, rfl⟩
  have Hr0 := Lib.hid hr0
  clear hr0
  rw [hz] at Hr0 hgl
  go_enter Tryz.func108, Tryz.ntmps108
  simp only [hz]
  go_wp2_with fail
  refine Hu.out.mono ?_
  rintro e w1 ⟨rfl, hR, hb⟩
  have Hby := Lib.hid (bytes_is B g d (D ++ rest) D rest (at_ + 1) w1 Hd.out rfl (by have := Hl.out; simp; omega) hR)
  have hr1 := hb.blk Hr0.out (by omega)
  have Hb := Lib.hid hb
  have Hr1 := Lib.hid hr1
  clear hR hb hr1
  go_wp2_with fail
  refine Hby.out.mono ?_
  rintro e w2 ⟨A, c, rfl, hdc, hcm, hown, hR, hb2⟩
  have hr2 := hb2.blk Hr1.out (by omega)
  have c0 := blk_cell hr2 0
  have c1 := blk_cell hr2 1
  have f0 := blk_free hr2 0
  have f1 := blk_free hr2 1
  have Hr2 := Lib.hid hr2
  have Hown := Lib.hid hown
  have HR := Lib.hid hR
  have Hb2 := Lib.hid hb2
  have hz1 : z + 1 ≤ w1.heap.size := by have := Hb.out.size; simp at this; omega
  clear hown hR hb2 hr2
  go_wp2_with fail
  have hset : But (fun k => k = z) w2 ((w2.setCell ⟨z, 0, none⟩ (.int .u8 kd)).setCell ⟨z, 1, none⟩ (.slice A d c)) := ((But.refl (fun k => k = z) _).setCell (p := ⟨z, 0, none⟩) rfl _).setCell (p := ⟨z, 1, none⟩) rfl _
  refine bodyPost_ret (v := .agg #[.int .u8 kd, .slice A d c]) (by simp [results, Tryz.results108, go_sem, *]) rfl ⟨A, c, _, rfl, (Hown.out.mono (by omega)).butA hset (fun k e hk => ?_), HR.out.butY hset (fun k hk => .inr (by omega)), ?_⟩
  · have := OwnB.at_ Hown.out e
    omega
  · exact ((((But.of (S := fun k => k = g) ((Below.refl _ _).alloc (Nat.le_refl _) (.cells #[.int .u8 0, .slice none 0 0] 142))).trans (Hb.out.trans Hb2.out)).setNew (p := ⟨z, 0, none⟩) (by rw [hz]; exact Nat.le_refl _) _).setNew (p := ⟨z, 1, none⟩) (by rw [hz]; exact Nat.le_refl _) _)

/-- Options whose bytes lie in rows of the call's own, from block B on. -/
def OptOwn (w : World) (B : Nat) (o : OptV) (l : Int × List Int) : Prop := o.kind = l.1 ∧ (0 ≤ o.kind ∧ o.kind < 256) ∧ (∀ x ∈ l.2, 0 ≤ x ∧ x < 256) ∧ OwnB w B o.A o.n o.c l.2
def OwnL (w : World) (B : Nat) : List OptV → List (Int × List Int) → Prop
  | [], [] => True
  | o :: os, l :: ls => OptOwn w B o l ∧ OwnL w B os ls
  | _, _ => False
theorem OptOwn.at_ {w : World} {B : Nat} {o : OptV} {l : Int × List Int} (h : OptOwn w B o l) : OptAt w o l := ⟨h.1, h.2.1, h.2.2.2.cap, h.2.2.2.capMax, h.2.2.2.rd h.2.2.1⟩
theorem OwnL.reads {w : World} {B : Nat} : ∀ {os : List OptV} {ls : List (Int × List Int)}, OwnL w B os ls → Reads w os ls
  | [], [], _ => trivial
  | _ :: _, _ :: _, h => ⟨h.1.at_, OwnL.reads h.2⟩
theorem OwnL.mono {w w' : World} {B B' : Nat} (hm : ∀ o l, OptOwn w B o l → OptOwn w' B' o l) : ∀ {os : List OptV} {ls : List (Int × List Int)}, OwnL w B os ls → OwnL w' B' os ls
  | [], [], _ => trivial
  | _ :: _, _ :: _, h => ⟨hm _ _ h.1, OwnL.mono hm h.2⟩
theorem OwnL.but {S : Nat → Prop} {w w' : World} {B : Nat} {os : List OptV} {ls : List (Int × List Int)} (h : OwnL w B os ls) (hb : But S w w') (hS : ∀ n c l k, OwnB w B (some ⟨k, 0, none⟩) n c l → ¬ S k) : OwnL w' B os ls :=
  h.mono fun _ _ h => ⟨h.1, h.2.1, h.2.2.1, h.2.2.2.butA hb (fun k e => by have h2 := h.2.2.2; rw [e] at h2; exact hS _ _ _ k h2)⟩
theorem OwnL.on {w w' : World} {B : Nat} {os : List OptV} {ls : List (Int × List Int)} (h : OwnL w B os ls) (hb : Below w.heap.size w w') : OwnL w' B os ls := h.mono fun _ _ h => ⟨h.1, h.2.1, h.2.2.1, h.2.2.2.on hb⟩
theorem OwnL.low {w : World} {B B' : Nat} {os : List OptV} {ls : List (Int × List Int)} (h : OwnL w B os ls) (hB : B' ≤ B) : OwnL w B' os ls := h.mono fun _ _ h => ⟨h.1, h.2.1, h.2.2.1, h.2.2.2.mono hB⟩
theorem OwnL.snoc {w : World} {B : Nat} : ∀ {a b : List OptV} {k l : List (Int × List Int)}, OwnL w B a k → OwnL w B b l → OwnL w B (a ++ b) (k ++ l)
  | [], _, [], _, _, h => h
  | _ :: _, _, _ :: _, _, h, h' => ⟨h.1, OwnL.snoc h.2 h'⟩
/-- The options' own row is none of their bytes' rows. -/
theorem own_apart {w : World} {B B2 n c n2 c2 k : Nat} {l : List Int} {A2 : Option Addr} {os : List OptV} (h : OwnB w B (some ⟨k, 0, none⟩) n c l) (ho : OwnO w B2 A2 n2 c2 os) : ¬ Blk A2 k := by
  rintro ⟨a, rfl, rfl⟩
  rcases ho.2 with ⟨e, _⟩ | ⟨g, cap, cur, e, hB, hg, _⟩
  · injection e with e _ _; cases e
  · injection e with e _ _
    injection e with e
    subst e
    exact own_ne h hg _ rfl rfl
theorem OwnL.grown {w w' : World} {B B2 n2 c2 : Nat} {os os2 : List OptV} {ls : List (Int × List Int)} {A2 : Option Addr} (h : OwnL w B os ls) (ho : OwnO w B2 A2 n2 c2 os2) (hg : w.grownBy w' (Value.slice A2 n2 c2).ownBlock) : OwnL w' B os ls :=
  h.but (grown_but hg) (fun _ _ _ _ h2 => own_apart h2 ho)
/-- Options told, their bytes in rows of the call's own. -/
def ParseOwn (b : List Int) (w : World) (e : Ending) (w' : World) : Prop :=
  ∃ A m c os, e = .returned (.tuple #[.slice A m c, .int .i64 (parseO b).2]) ∧ OwnO w' w.heap.size A m c os ∧ OwnL w' w.heap.size os (parseO b).1 ∧ Below w.heap.size w w'
theorem ParseOwn.told {b : List Int} {w w' : World} {e : Ending} (h : ParseOwn b w e w') : ParseO b w e w' := by
  obtain ⟨A, m, c, os, h1, h2, h3, h4⟩ := h
  exact ⟨A, m, c, os, h1, h2, h3.reads, h4⟩

/-- What the closure that reads options leaves: in block p the options, or how it gave up. -/
def ParseR (p : Nat) (b : List Int) (w1 : World) (x : Int) (w' : World) : Prop :=
  x = (parseL b).2 ∧ (x = 0 → ∃ A m c os, Box w' p 27 (.slice A m c) ∧ OwnO w' w1.heap.size A m c os ∧ OwnL w' w1.heap.size os (parseL b).1)

theorem gave_did {g p : Nat} {b : List Int} {x : Int} {w w1 w' : World} {S : Nat → Prop} (hb : But (fun k => S k ∨ k = g) w w1) (h : Gave w' g x) (hb2 : But (fun k => k = g) w1 w') (hx : (parseL b).2 = x) (hx0 : x ≠ 0) : Did S g (ParseR p b w) w (.panicked (gaveUp g)) w' := by
  obtain ⟨A, n, c, at_, hg⟩ := h
  exact ⟨x, A, n, c, at_, .inr rfl, hg, hb.trans (hb2.mono (fun _ _ h => .inr h)), hx.symm, fun h => absurd h hx0⟩
theorem But.belowB {S : Nat → Prop} {w w1 w' : World} (h : But S w w1) (hb : Below w.heap.size w1 w') : But S w w' :=
  ⟨hb.os.trans h.os, hb.tape.trans h.tape, hb.output.trans h.output, Nat.le_trans h.size hb.size, fun k hk hn => (hb.block k hk).trans (h.block k hk hn)⟩
theorem OwnO.at_ {w : World} {B : Nat} {A : Option Addr} {n c k : Nat} {os : List OptV} (h : OwnO w B A n c os) (hA : A = some ⟨k, 0, none⟩) : B ≤ k ∧ k < w.heap.size := by
  rcases h.2 with ⟨e, _⟩ | ⟨g, cap, cur, e, hB, hg, _⟩
  · injection e with e _ _; rw [hA] at e; cases e
  · injection e with e _ _
    rw [hA] at e
    injection e with e
    injection e with e _
    subst e
    exact ⟨hB, lt_of_block hg⟩

theorem OwnO.blkB {w : World} {B : Nat} {A : Option Addr} {n c k : Nat} {os : List OptV} (h : OwnO w B A n c os) (hk : Blk A k) : B ≤ k := by
  obtain ⟨a, rfl, rfl⟩ := hk
  rcases h.2 with ⟨e, _⟩ | ⟨g, cap, cur, e, hB, hg, _⟩
  · injection e with e _ _; cases e
  · injection e with e _ _
    injection e with e
    subst e
    exact hB
/-- What the reading of options has so far. -/
structure PHold (w : World) (g p : Nat) (A : Option Addr) (m c : Nat) (os : List OptV) (acc : List (Int × List Int)) (wr : World) : Prop where
  box : Box wr p 27 (.slice A m c)
  own : OwnO wr w.heap.size A m c os
  ownl : OwnL wr w.heap.size os acc
  but : But (fun k => k = p ∨ k = g) w wr
theorem PHold.drew {w : World} {g p : Nat} {A : Option Addr} {m c : Nat} {os : List OptV} {acc : List (Int × List Int)} {wr : World} (h : PHold w g p A m c os acc wr) : PHold w g p A m c os acc wr.drew :=
  ⟨h.box.but ((But.refl (fun _ => False) _).drew) (fun x => x), h.own.drew, h.ownl.on (Below.drew (Below.refl _ _)), h.but.drew⟩
theorem PHold.step {w : World} {g p : Nat} {A : Option Addr} {m c : Nat} {os : List OptV} {acc : List (Int × List Int)} {wr w' : World} (h : PHold w g p A m c os acc wr) (hg : g < w.heap.size) (hpg : p ≠ g) (hb : But (fun k => k = g) wr w') : PHold w g p A m c os acc w' :=
  ⟨h.box.but hb hpg, h.own.but hb (fun k e => by have := h.own.at_ e; omega), h.ownl.but hb (fun _ _ _ k h2 => by have := h2.at_ rfl; omega), h.but.trans (hb.mono (fun _ _ h => .inr h))⟩
theorem PHold.fin {w : World} {B g p : Nat} {A : Option Addr} {m c : Nat} {os : List OptV} {b l : List Int} {at_ : Int} {acc : List (Int × List Int)} {wr : World} (h : PHold w g p A m c os acc wr) (hR : Rdr wr B g l at_) (he : parseL b = (acc, 0)) : Did (fun k => k = p) g (ParseR p b w) w (.returned (.tuple #[])) wr := by
  obtain ⟨A', n', c', _, _, _, _, _, hg, _⟩ := hR
  exact ⟨0, A', n', c', _, .inl ⟨rfl, rfl⟩, hg, h.but, by rw [he], fun _ => ⟨A, m, c, os, h.box, h.own, by rw [he]; exact h.ownl⟩⟩
/-- One option more. -/
theorem PHold.more {w : World} {g p : Nat} {A A4 A5 : Option Addr} {m c d c4 c5 : Nat} {os : List OptV} {acc : List (Int × List Int)} {w4 w6 : World} {x : Int} {D : List Int} (h : PHold w g p A m c os acc w4) (hp : p < w.heap.size)
    (hx : 0 ≤ x ∧ x < 256) (hD : ∀ y ∈ D, 0 ≤ y ∧ y < 256) (h4 : OwnB w4 w.heap.size A4 d c4 D) (ho : OwnO w6 w.heap.size A5 (m + 1) c5 (os ++ [⟨x, A4, d, c4⟩])) (hg : (w4.alloc (.cells #[.int .u8 x, .slice A4 d c4] 142)).grownBy w6 (Value.slice A m c).ownBlock) (hb : Below w.heap.size (w4.alloc (.cells #[.int .u8 x, .slice A4 d c4] 142)) w6) :
    PHold w g p A5 (m + 1) c5 (os ++ [⟨x, A4, d, c4⟩]) (acc ++ [(x, D)]) (w6.setCell ⟨p, 0, none⟩ (.slice A5 (m + 1) c5)) := by
  have hba : Below w4.heap.size w4 (w4.alloc (.cells #[.int .u8 x, .slice A4 d c4] 142)) := (Below.refl _ _).alloc (Nat.le_refl _) _
  have hl5 : OwnL (w4.alloc (.cells #[.int .u8 x, .slice A4 d c4] 142)) w.heap.size (os ++ [⟨x, A4, d, c4⟩]) (acc ++ [(x, D)]) := (h.ownl.on hba).snoc ⟨⟨rfl, hx, hD, h4.on hba⟩, trivial⟩
  have hl6 := hl5.grown (h.own.on hba) hg
  have hset : But (fun k => k = p) w6 (w6.setCell ⟨p, 0, none⟩ (.slice A5 (m + 1) c5)) := (But.refl (fun k => k = p) _).setCell (p := ⟨p, 0, none⟩) rfl _
  have h6 : But (fun k => k = p ∨ k = g) w w6 := (h.but.trans (But.of hba)).belowB hb
  exact ⟨((h.box.alloc _).below hb hp).set_ _, ho.but hset (fun k e => by have := ho.at_ e; omega), hl6.but hset (fun _ _ _ k h2 => by have := h2.at_ rfl; omega), h6.trans (hset.mono (fun _ _ h => .inl h))⟩

theorem parse_do (B g p : Nat) (b : List Int) (w : World) (hl : b.length ≤ 40) (hp : p < B) (hbox : Box w p 27 (.slice none 0 0)) (h : Rdr w B g b 0) :
    Calls Tryz.prog 107 #[.pointer (some ⟨g, 0, none⟩), .pointer (some ⟨p, 0, none⟩)] w (Did (fun k => k = p) g (ParseR p b w) w) := by
  have hg : B ≤ g ∧ g < w.heap.size := by
    obtain ⟨A, n, c, _, _, _, hB, _, hg, _⟩ := h
    exact ⟨hB.1, lt_of_block hg⟩
  have hpg : p ≠ g := by omega
  obtain ⟨n, hn⟩ : ∃ n, b.length = n := ⟨_, rfl⟩
  have Hn := Lib.hid hn
  have hn40 : n ≤ 40 := by omega
  have Hby := Lib.hid h.bytes
  have Hrd := Lib.hid h
  have Hbox := Lib.hid hbox
  clear h hl hbox hn
  go_enter Tryz.func107, Tryz.ntmps107
  go_step3
  go_wp2_with fail
  go_step3
  go_wp2_with fail
  go_loopg [] n (fun gk wr => ∃ (j m2 : Nat) (A2 : Option Addr) (c2 : Nat) (os : List OptV) (acc : List (Int × List Int)), Hid (gk + j = n) ∧ j ≤ n ∧ m2 ≤ j ∧ Hid (∃ at_, Rdr wr B g (b.drop j) at_) ∧ Hid (PHold w g p A2 m2 c2 os acc wr) ∧ Hid (parseL b = behindO acc (parseL (b.drop j))))
  case atStart => exact ⟨0, 0, none, 0, [], [], rfl, Nat.zero_le _, Nat.le_refl _, Lib.hid ⟨_, by simpa using Hrd.out⟩, Lib.hid ⟨Hbox.out, OwnO.nil _ _, trivial, But.refl _ _⟩, Lib.hid (by rw [List.drop_zero]; exact (behindO_nil (parseL b) (parseF_err _ _)).symm)⟩
  case round =>
    obtain ⟨j, m2, A2, c2, os, acc, hgk, hj, hmj, hR', hH, hpa⟩ := hrel
    obtain ⟨at_, hR''⟩ := hR'.out
    have hR := Lib.hid hR''
    clear hR' hR''
    have Hleft := Lib.hid (left_ok B g (b.drop j) at_ wr hR.out)
    by_cases hjn : j < n
    · have hd := drop_cons_ b j (by rw [Hn.out]; exact hjn)
      have hlen : ((b.drop j).length : Int) = n - j := by rw [List.length_drop, Hn.out]; omega
      obtain ⟨x, ex⟩ : ∃ x, b.getD j 0 = x := ⟨_, rfl⟩
      rw [ex] at hd
      rw [hlen] at Hleft
      have hpos : 0 < (n : Int) - j := by omega
      have hxb := Hby.out x (List.mem_of_mem_drop (by rw [hd]; simp))
      have Hd := Lib.hid hd
      have Hu := Lib.hid (u8_told B g x (b.drop (j + 1)) at_ wr (by rw [← hd]; exact hR.out))
      clear hd hlen ex
      by_cases h0 : x = 0
      · subst h0
        go_wp2_with fail
        refine Hleft.out.mono ?_
        rintro e w1 ⟨rfl, rfl⟩
        go_wp2_with fail
        refine Hu.out.mono ?_
        rintro e w2 ⟨rfl, hR2, hb2⟩
        have HH2 := Lib.hid (hH.out.step hg.2 hpg hb2)
        have HR2 := Lib.hid hR2
        clear hR2 hb2
        go_wp2_with fail
        have hlen2 : (b.drop (j + 1)).length ≤ 100 := by rw [List.length_drop, Hn.out]; omega
        by_cases hz : (b.drop (j + 1)).all (fun x => x == 0) = true
        · refine (filling_ok B g _ _ w2 hlen2 hz HR2.out).mono ?_
          rintro e w3 ⟨rfl, hR3, hb3⟩
          have Hfin := Lib.hid ((HH2.out.step hg.2 hpg hb3).fin hR3 (show parseL b = (acc, 0) by rw [hpa.out, Hd.out, parseL_zero, if_pos hz]; simp [behindO]))
          clear hR3 hb3
          go_wp2_with fail
          rw [Exit.noGoto_normal]
          go_end0
          exact Hfin.out
        · refine (filling_bad B g _ _ w2 hlen2 hz HR2.out).mono ?_
          rintro e w3 ⟨rfl, hg3, hb3⟩
          have Hfin := Lib.hid (gave_did (p := p) (b := b) HH2.out.but hg3 hb3 (show (parseL b).2 = 5 by rw [hpa.out, Hd.out, parseL_zero, if_neg hz]; simp [behindO]) (by decide))
          clear hg3 hb3
          exact ⟨rfl, Hfin.out⟩
      · have hx0 : (x == 0) = false := by simpa using h0
        have H0 := Lib.hid h0
        clear h0
        by_cases h1 : x = 1
        · subst h1
          go_wp2_with fail
          refine Hleft.out.mono ?_
          rintro e w1 ⟨rfl, rfl⟩
          go_wp2_with fail
          refine Hu.out.mono ?_
          rintro e w2 ⟨rfl, hR2, hb2⟩
          have HH2 := Lib.hid (hH.out.step hg.2 hpg hb2)
          have HR2 := Lib.hid hR2
          clear hR2 hb2
          go_wp2_with fail
          go_roundg (gk - 1)
          case measure => have := hgk.out; omega
          case rel => exact ⟨j + 1, m2, A2, c2, os, acc, by have := hgk.out; show gk - 1 + (j + 1) = _; omega, by omega, by omega, Lib.hid ⟨_, HR2.out⟩, HH2, Lib.hid (by rw [hpa.out, Hd.out, parseL_one])⟩
        · have hx1 : (x == 1) = false := by simpa using h1
          have H1 := Lib.hid h1
          clear h1
          go_wp2_with fail
          refine Hleft.out.mono ?_
          rintro e w1 ⟨rfl, rfl⟩
          go_wp2_with fail
          refine Hu.out.mono ?_
          rintro e w2 ⟨rfl, hR2, hb2⟩
          have HH2 := Lib.hid (hH.out.step hg.2 hpg hb2).drew
          have HR2 := Lib.hid (hR2.below (Below.drew (Below.refl _ _)))
          have Hsof := Lib.hid (show ∀ w', PHold w g p A2 m2 c2 os acc w' → w'.cell? ⟨p, 0, none⟩ = some (.slice A2 m2 c2) from fun w' h => h.box.cell)
          clear hR2 hb2
          go_wp2_with fail
          by_cases hoe : optErr (b.drop (j + 1)) = 0
          · obtain ⟨d, D, rest, er, hdl⟩ := optErr_zero hoe
            have hpn : parseL b = behindO (acc ++ [(x, D)]) (parseL rest) := by rw [hpa.out, Hd.out, er, parseL_good x d D rest H0.out H1.out hdl, behindO_app]
            have hlr : (b.drop (j + 1)).length = 1 + (d + rest.length) := by rw [er]; simp [hdl]; omega
            have hln : (b.drop (j + 1)).length = n - (j + 1) := by rw [List.length_drop, Hn.out]
            have hdr : rest = b.drop (j + (2 + d)) := by
              have e1 : b.drop (j + (2 + d)) = (b.drop (j + 1)).drop (1 + d) := by rw [List.drop_drop]; congr 1; omega
              rw [e1, er, Nat.add_comm 1 d, List.drop_succ_cons, List.drop_left' hdl]
            have hDb : ∀ y ∈ D, 0 ≤ y ∧ y < 256 := fun y hy => Hby.out y (List.mem_of_mem_drop (i := j + 1) (by rw [er]; simp [hy]))
            rw [er] at HR2
            have Hpn := Lib.hid hpn
            have Hdr := Lib.hid hdr
            have HDb := Lib.hid hDb
            have Hdl := Lib.hid hdl
            have Hxb := Lib.hid hxb
            have hjd : j + (2 + d) ≤ n := by omega
            have hlim : D.length + rest.length ≤ 100 := by omega
            clear hpn hdr hDb hlr hln er hoe
            obtain ⟨w3, ew3⟩ : ∃ w3, w2.drew = w3 := ⟨_, rfl⟩
            rw [ew3] at HH2 HR2
            refine wp_region_heldL (S := fun w' => w'.cell? ⟨p, 0, none⟩ = some (.slice A2 m2 c2)) 6 (by kernel_rfl) (by rw [ew3]; exact Hsof.out _ HH2.out) (fun hHeld => ?_)
            refine anyHL_take (i := 0) (oi := { dst := some 10, op := Go.Op.load 27 (Go.Operand.tmp 1), type := 27, pos := "opts.go:51", after := #[], guard := none }) (v := ?_) rfl (by kernel_rfl) (by kernel_rfl) (by kernel_rfl) (by kernel_rfl) (fun _ _ _ h => h) (Or.inl ⟨by rfl, ?_⟩) (by assumption) ?_
            rotate_left 1
            · intro w' hSw; (go_simp <;> (with_reducible rfl))
            (try simp only [Act.put, List.setIfInBounds_toArray, List.set_cons_zero, List.set_cons_succ])
            refine anyHL_take (i := 1) (oi := { dst := some 11, op := Go.Op.move (Go.Operand.tmp 0), type := 87, pos := "opts.go:51", after := #[], guard := none }) (v := ?_) rfl (by kernel_rfl) (by kernel_rfl) (by kernel_rfl) (by kernel_rfl) (fun _ _ _ h => h) (Or.inl ⟨by rfl, ?_⟩) (by assumption) ?_
            rotate_left 1
            · intro w' hSw; (go_simp <;> (with_reducible rfl))
            (try simp only [Act.put, List.setIfInBounds_toArray, List.set_cons_zero, List.set_cons_succ])
            refine anyHL_take (i := 2) (oi := { dst := some 12, op := Go.Op.move (Go.Operand.tmp 3), type := 5, pos := "opts.go:51", after := #[], guard := none }) (v := ?_) rfl (by kernel_rfl) (by kernel_rfl) (by kernel_rfl) (by kernel_rfl) (fun _ _ _ h => h) (Or.inl ⟨by rfl, ?_⟩) (by assumption) ?_
            rotate_left 1
            · intro w' hSw; (go_simp <;> (with_reducible rfl))
            (try simp only [Act.put, List.setIfInBounds_toArray, List.set_cons_zero, List.set_cons_succ])
            refine anyHL_one (i := 3) (o := { dst := some 13, op := Go.Op.call { callee := Go.Callee.value (Go.Operand.func 108), args := #[Go.Operand.tmp 11, Go.Operand.tmp 12], argTypes := #[87, 5] }, type := 142, pos := "opts.go:51", after := #[{ on := 1, ground := Go.Ground.data }, { on := 2, ground := Go.Ground.data }], guard := none }) (by kernel_rfl) rfl (by kernel_rfl) (fun K hK => ?_)
            go_simp
            (go_at_call 108; refine (option_good B g d x D rest _ _ Hdl.out hlim HR2.out).mono ?_; rintro e w4 ⟨A4, c4, at4, rfl, hown4, hR4, hb4⟩; have HH4 := Lib.hid (HH2.out.step hg.2 hpg hb4); have HR4 := Lib.hid hR4; have Hown4 := Lib.hid (hown4.mono HH2.out.but.size); clear hown4 hR4 hb4)
            refine hK.out _ _ ?_ (fun hHeld => ?_)
            · exact Hsof.out _ HH4.out
            clear hK K
            (try simp only [Act.put, List.setIfInBounds_toArray, List.set_cons_zero, List.set_cons_succ])
            refine anyHL_one (i := 4) (o := { dst := some 14, op := Go.Op.buildSlice 27 1 #[(0, Go.Operand.tmp 13)], type := 27, pos := "opts.go:51", after := #[{ on := 3, ground := Go.Ground.data }], guard := none }) (by kernel_rfl) rfl (by kernel_rfl) (fun K hK => ?_)
            go_simp
            skip
            refine hK.out _ _ ?_ (fun hHeld => ?_)
            · exact (HH4.out.box.alloc _).cell
            clear hK K
            (try simp only [Act.put, List.setIfInBounds_toArray, List.set_cons_zero, List.set_cons_succ])
            refine anyHL_one (i := 5) (o := { dst := some 15, op := Go.Op.call { callee := Go.Callee.builtin Go.Builtin.append, args := #[Go.Operand.tmp 10, Go.Operand.tmp 14], argTypes := #[27, 27] }, type := 27, pos := "opts.go:51", after := #[{ on := 0, ground := Go.Ground.data }, { on := 4, ground := Go.Ground.data }, { on := 3, ground := Go.Ground.chain }], guard := none }) (by kernel_rfl) rfl (by kernel_rfl) (fun K hK => ?_)
            (refine step_appO (by rfl) (.tmp 10) (.tmp 14) (by rfl) w.heap.size A2 (some ⟨w4.heap.size, 0, none⟩) m2 c2 1 1 _ [⟨x, A4, d, c4⟩] (m2 + 1) _ rfl rfl (by rfl) (by rfl) (HH4.out.own.on ((Below.refl _ _).alloc (Nat.le_refl _) _)) (RdO.one w4 w4.heap.size rfl _ _ x A4 d c4) (by omega) (by have := HH4.out.but.size; simp; omega) ?_; intro A5 c5 w5 hown5 hgr5 hb5 hat5; have hbx5 := (HH4.out.box.alloc (.cells #[.int .u8 x, .slice A4 d c4] 142)).below hb5 (by omega))
            refine hK.out _ _ ?_ (fun hHeld => ?_)
            · exact hbx5.cell
            clear hK K
            (try simp only [Act.put, List.setIfInBounds_toArray, List.set_cons_zero, List.set_cons_succ])
            have hc5 := hbx5.cell
            have hf5 := hbx5.free
            refine anyHL_last (o := { dst := none, op := Go.Op.store 27 (Go.Operand.tmp 1) (Go.Operand.tmp 15), type := 0, pos := "opts.go:51", after := #[{ on := 5, ground := Go.Ground.data }, { on := 5, ground := Go.Ground.chain }, { on := 0, ground := Go.Ground.phase }, { on := 1, ground := Go.Ground.phase }, { on := 2, ground := Go.Ground.phase }, { on := 3, ground := Go.Ground.phase }, { on := 4, ground := Go.Ground.phase }, { on := 5, ground := Go.Ground.phase }], guard := none }) (by kernel_rfl) rfl (by kernel_rfl) (fun K hK => ?_)
            go_simp
            skip
            refine hK.out _ _ ?_
            clear hK K
            (try simp only [Act.put, List.setIfInBounds_toArray, List.set_cons_zero, List.set_cons_succ])
            have HH7 := Lib.hid (HH4.out.more (by omega) Hxb.out HDb.out Hown4.out hown5 hgr5 hb5)
            have hset : But (fun k => k = p) w5 (w5.setCell ⟨p, 0, none⟩ (.slice A5 (m2 + 1) c5)) := (But.refl (fun k => k = p) _).setCell (p := ⟨p, 0, none⟩) rfl _
            have HR7 := Lib.hid (((HR4.out.below ((Below.refl _ _).alloc (Nat.le_refl _) (.cells #[.int .u8 x, .slice A4 d c4] 142))).butY (grown_but hgr5) (fun k hk => .inr (by have := HH4.out.own.blkB hk; omega))).butY hset (fun k hk => .inl (by omega)))
            rw [Hdr.out] at HR7
            rw [Hdr.out] at Hpn
            clear hset hgr5 hb5 hat5 hown5 hbx5 hc5 hf5
            go_wp2_with fail
            go_roundg (n - (j + (2 + d)))
            case measure => have := hgk.out; omega
            case rel => exact ⟨j + (2 + d), m2 + 1, A5, c5, _, _, (show n - (j + (2 + d)) + (j + (2 + d)) = n by omega), by omega, by omega, Lib.hid ⟨_, HR7.out⟩, HH7, Hpn⟩
          · have Hpe := Lib.hid (show (parseL b).2 = optErr (b.drop (j + 1)) by
              rw [hpa.out, Hd.out, parseL_bad x _ H0.out H1.out hoe]
              simp [behindO, hoe])
            have Hoe := Lib.hid hoe
            clear hoe
            refine wp_region_heldL (S := fun w' => w'.cell? ⟨p, 0, none⟩ = some (.slice A2 m2 c2)) 6 (by kernel_rfl) (Hsof.out _ HH2.out) (fun hHeld => ?_)
            refine anyHL_take (i := 0) (oi := { dst := some 10, op := Go.Op.load 27 (Go.Operand.tmp 1), type := 27, pos := "opts.go:51", after := #[], guard := none }) (v := ?_) rfl (by kernel_rfl) (by kernel_rfl) (by kernel_rfl) (by kernel_rfl) (fun _ _ _ h => h) (Or.inl ⟨by rfl, ?_⟩) (by assumption) ?_
            rotate_left 1
            · intro w' hSw; (go_simp <;> (with_reducible rfl))
            (try simp only [Act.put, List.setIfInBounds_toArray, List.set_cons_zero, List.set_cons_succ])
            refine anyHL_take (i := 1) (oi := { dst := some 11, op := Go.Op.move (Go.Operand.tmp 0), type := 87, pos := "opts.go:51", after := #[], guard := none }) (v := ?_) rfl (by kernel_rfl) (by kernel_rfl) (by kernel_rfl) (by kernel_rfl) (fun _ _ _ h => h) (Or.inl ⟨by rfl, ?_⟩) (by assumption) ?_
            rotate_left 1
            · intro w' hSw; (go_simp <;> (with_reducible rfl))
            (try simp only [Act.put, List.setIfInBounds_toArray, List.set_cons_zero, List.set_cons_succ])
            refine anyHL_take (i := 2) (oi := { dst := some 12, op := Go.Op.move (Go.Operand.tmp 3), type := 5, pos := "opts.go:51", after := #[], guard := none }) (v := ?_) rfl (by kernel_rfl) (by kernel_rfl) (by kernel_rfl) (by kernel_rfl) (fun _ _ _ h => h) (Or.inl ⟨by rfl, ?_⟩) (by assumption) ?_
            rotate_left 1
            · intro w' hSw; (go_simp <;> (with_reducible rfl))
            (try simp only [Act.put, List.setIfInBounds_toArray, List.set_cons_zero, List.set_cons_succ])
            refine anyHL_one (i := 3) (o := { dst := some 13, op := Go.Op.call { callee := Go.Callee.value (Go.Operand.func 108), args := #[Go.Operand.tmp 11, Go.Operand.tmp 12], argTypes := #[87, 5] }, type := 142, pos := "opts.go:51", after := #[{ on := 1, ground := Go.Ground.data }, { on := 2, ground := Go.Ground.data }], guard := none }) (by kernel_rfl) rfl (by kernel_rfl) (fun K hK => ?_)
            go_simp
            (go_at_call 108; refine (option_bad B g x _ _ _ _ rfl Hoe.out HR2.out).mono ?_; rintro e w4 ⟨rfl, hg4, hb4⟩; exact ⟨rfl, gave_did HH2.out.but hg4 hb4 Hpe.out Hoe.out⟩)
    · obtain rfl : j = n := by omega
      have hlen : ((b.drop j).length : Int) = 0 := by rw [List.length_drop, Hn.out]; omega
      rw [hlen] at Hleft
      go_wp2_with fail
      refine Hleft.out.mono ?_
      rintro e w1 ⟨rfl, rfl⟩
      go_wp2_with fail
      have hnil : b.drop j = [] := List.drop_eq_nil_of_le (by rw [Hn.out]; omega)
      have hR' := hR.out
      rw [hnil] at hR'
      refine (filling_ok B g [] _ _ (by simp) rfl hR').mono ?_
      rintro e w3 ⟨rfl, hR3, hb3⟩
      have Hfin := Lib.hid ((hH.out.step hg.2 hpg hb3).fin hR3 (show parseL b = (acc, 0) by rw [hpa.out, hnil, parseL_nil]; simp [behindO]))
      clear hR3 hb3 hR'
      go_wp2_with fail
      rw [Exit.noGoto_normal]
      go_end0
      exact Hfin.out

theorem parse_any (A : Option Addr) (n c : Nat) (b : List Int) (w : World) (hn : n ≤ 140737488355328) (hr : Rd w A n b) :
    Calls Tryz.prog 80 #[.slice A n c] w (ParseOwn b w) := by
  have hmf : ∀ (fn : Fn) (first cap : Array Value) (w : World), (Instr.makeFunc fn first cap).run Tryz.prog w = .ok (.func fn first cap) w := fun _ _ _ _ => rfl
  by_cases h40 : 40 < n
  · have hi : 40 < (n : Int) := by omega
    have Hp := Lib.hid (show parseO b = ([], 3) by unfold parseO; rw [if_pos (by rw [hr.len]; exact h40)])
    clear hr
    go_enter Tryz.func80, Tryz.ntmps80
    go_wp2_with fail
    go_ret2
    exact ⟨none, 0, 0, [], by rw [Hp.out]; rfl, OwnO.nil _ _, by rw [Hp.out]; trivial, Below.refl _ _⟩
  · have hi : (n : Int) ≤ 40 := by omega
    have hlen := hr.len
    have Hp := Lib.hid (show parseO b = parseL b by unfold parseO; rw [if_neg (by rw [hr.len]; exact h40)])
    obtain ⟨z, hz⟩ : ∃ z, w.heap.size = z := ⟨_, rfl⟩
    have hba : Below w.heap.size w (w.alloc (.cells #[.slice none 0 0] 27)) := (Below.refl _ _).alloc (Nat.le_refl _) _
    have hbox : Box (w.alloc (.cells #[.slice none 0 0] 27)) z 27 (.slice none 0 0) := by rw [← hz]; exact Box.new _ _ _
    have hsz : (w.alloc (.cells #[.slice none 0 0] 27)).heap.size = z + 1 := by simp [hz]
    have hdo := fun w1 g (hb : Below (w.alloc (.cells #[.slice none 0 0] 27)).heap.size (w.alloc (.cells #[.slice none 0 0] 27)) w1) (_ : (w.alloc (.cells #[.slice none 0 0] 27)).heap.size ≤ g) (_ : g < w1.heap.size) (hR : Rdr w1 (w.alloc (.cells #[.slice none 0 0] 27)).heap.size g b 0) =>
      parse_do _ g z b w1 (by omega) (by omega) (hbox.below hb (by omega)) hR
    have hread := read_any (fun k => k = z) _ n c #[.pointer (some ⟨z, 0, none⟩)] _ (fun _ => rfl) A b _ (w.alloc (.cells #[.slice none 0 0] 27)) (fun k hk => by omega) hn (hr.below hba) (enter_of Tryz.func107 (by kernel_rfl) rfl) hdo
    have Hread := Lib.hid hread
    have Hba := Lib.hid hba
    clear hr hdo hread hbox hlen
    go_enter Tryz.func80, Tryz.ntmps80
    go_wp2_with fail
    refine Hread.out.mono ?_
    rintro e w4 ⟨x, w1, w3, rfl, hb1, ⟨hx, hR⟩, hb2, hb3⟩
    have hbw : Below w.heap.size w w4 := ⟨hb3.os.trans Hba.out.os, hb3.tape.trans Hba.out.tape, hb3.output.trans Hba.out.output, by have := hb3.size; omega, fun k hk => (hb3.block k (by omega) (by omega)).trans (Hba.out.block k hk)⟩
    have Hbw := Lib.hid hbw
    by_cases hx0 : x = 0
    · subst hx0
      obtain ⟨A4, m4, c4, os, hbox, hown, hownl⟩ := hR rfl
      have hle : z + 1 ≤ w1.heap.size := by have := hb1.size; omega
      have hbox4 := hbox.but hb2 (by omega)
      have hown4 := (hown.but hb2 (fun k e => by have := hown.at_ e; omega)).mono (B' := w.heap.size) (by omega)
      have hownl4 := (hownl.but hb2 (fun _ _ _ k h2 => by have := h2.at_ rfl; omega)).low (B' := w.heap.size) (by omega)
      have hc4 := hbox4.cell
      have Hown4 := Lib.hid hown4
      have Hownl4 := Lib.hid hownl4
      have Hx := Lib.hid hx
      clear hR hb1 hb2 hb3 hbw hbox hown hownl hbox4 hown4 hownl4 hx
      go_wp2_with fail
      go_ret2
      exact ⟨A4, m4, c4, os, by rw [Hp.out, ← Hx.out]; rfl, Hown4.out, by rw [Hp.out]; exact Hownl4.out, Hbw.out⟩
    · have hxn : (x != 0) = true := by simpa using hx0
      have Hx := Lib.hid hx
      have Hx0 := Lib.hid hx0
      clear hR hb1 hb2 hb3 hbw hx hx0
      go_wp2_with fail
      go_ret2
      have h1 : (parseL b).1 = [] := parseF_err _ _ (by have := Hx.out; have h := Hx0.out; unfold parseL at this; omega)
      exact ⟨none, 0, 0, [], by rw [Hp.out, ← Hx.out]; rfl, OwnO.nil _ _, by rw [Hp.out, h1]; trivial, Hbw.out⟩
end Go.Proofs.YtheknmihnkennaaGreat
