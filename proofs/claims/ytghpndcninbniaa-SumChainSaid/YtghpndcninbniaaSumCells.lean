/-
  The contracts of the small functions of chapter 2's statements: even, lay, word, zeros.
-/
import Derived.Test.YtghpndcninbniaaSumWakes
import Derived.Test.YtghpndcninbniaaSumLay
import Derived.Test.YtghpndcninbniaaBytesApp
import Derived.Deep.QuietTactic
import Derived.BigQuiet
namespace Go.Proofs.Ytghpndcninbniaa
open Go.RowKit

/-- A row of bytes of the call's own, told, and nothing older has turned. -/
def EvenIs (l : List Int) (w : World) (e : Ending) (w' : World) : Prop := ∃ A c, e = .returned (.slice A l.length c) ∧ OwnB w' w.heap.size A l.length c l ∧ Below w.heap.size w w'

theorem even_any (A : Option Addr) (n c : Nat) (l : List Int) (w : World) (hn : n ≤ 140737488351232) (h : Rd w A n l) :
    Calls Try.prog 23 #[.slice A n c] w (EvenIs (evenL l) w) := by
  have hlen := h.len
  obtain ⟨pd, hpd⟩ : ∃ pd, (if l.length < 4 then 4 - l.length else l.length % 2) = pd := ⟨_, rfl⟩
  have hE : evenL l = l ++ List.replicate pd 0 := by unfold evenL; rw [hpd]
  have HE := Lib.hid hE
  have Hpd := Lib.hid hpd
  have Hlen := Lib.hid hlen
  have Hr := Lib.hid h
  have hpd3 : pd ≤ 4 := by split at hpd <;> omega
  clear hE hpd hlen h
  go_enter Try.func23, Try.ntmps23
  go_wp2_with (refine wpList_app rfl (.const (.slice none 0 0)) (.tmp 4) rfl w.heap.size none A 0 0 n c [] l rfl rfl (OwnB.nil _ _) Hr.out (by omega) (Nat.le_refl _) ?_; intro A2 c2 w2 hown2 _ hbel2 _)
  go_loopg [3] pd (fun gk b wr => ∃ k m A' c', Hid (gk + k = pd) ∧ Hid (m = n + k) ∧ k ≤ pd ∧ b = .slice A' m c' ∧ OwnB wr w.heap.size A' m c' (l ++ List.replicate k 0) ∧ Below w.heap.size w wr)
  case atStart => exact ⟨0, n, A2, c2, by show pd + 0 = pd; omega, by show n = n + 0; omega, Nat.zero_le _, by first | rfl | simp, by simpa using hown2, hbel2⟩
  case round =>
    obtain ⟨k, m, A', c', hgk, hm, hk, rfl, hown, hbel⟩ := hrel
    have Hown := Lib.hid hown
    have hml : m ≤ 140737488351236 := by have := hm.out; omega
    have hbs := hbel.size
    clear hown
    by_cases hlt : k < pd
    · have Hrd := Lib.hid (Rd.one wr 0 (by omega))
      have Hown1 := Lib.hid (Hown.out.alloc (.cells #[.int .u8 0] 5))
      have hbel1 := hbel.alloc hbs (.cells #[.int .u8 0] 5)
      by_cases h4 : m < 4
      · go_wp2_with (refine wpList_app rfl (.tmp 15) (.tmp 16) rfl w.heap.size A' (some ⟨wr.heap.size, 0, none⟩) m c' 1 1 _ [0] rfl rfl Hown1.out Hrd.out (by omega) (by simp <;> omega) ?_; intro A3 c3 w3 hown3 _ hbel3 _)
        go_roundg (gk - 1)
        case measure => have := hgk.out; omega
        case rel => exact ⟨k + 1, m + 1, A3, c3, by have := hgk.out; show gk - 1 + (k + 1) = _; omega, by have := hm.out; show m + 1 = n + (k + 1); omega, by omega, rfl, by rw [List.replicate_succ', ← List.append_assoc]; exact hown3, hbel1.trans hbel3⟩
      · have hodd : ((m : Int) % 2 == 1) = true := by
          have h1 := Hpd.out
          have h2 := Hlen.out
          have h3 := hm.out
          rw [h2] at h1
          split at h1
          · omega
          · simp; omega
        go_wp2_with (refine wpList_app rfl (.tmp 15) (.tmp 16) rfl w.heap.size A' (some ⟨wr.heap.size, 0, none⟩) m c' 1 1 _ [0] rfl rfl Hown1.out Hrd.out (by omega) (by simp <;> omega) ?_; intro A3 c3 w3 hown3 _ hbel3 _)
        go_roundg (gk - 1)
        case measure => have := hgk.out; omega
        case rel => exact ⟨k + 1, m + 1, A3, c3, by have := hgk.out; show gk - 1 + (k + 1) = _; omega, by have := hm.out; show m + 1 = n + (k + 1); omega, by omega, rfl, by rw [List.replicate_succ', ← List.append_assoc]; exact hown3, hbel1.trans hbel3⟩
    · have hkp : k = pd := by omega
      subst hkp
      have h4 : 4 ≤ m ∧ m % 2 = 0 := by
        have h1 := Hpd.out
        have h2 := Hlen.out
        have h3 := hm.out
        rw [h2] at h1
        split at h1 <;> omega
      have h41 : ¬ m < 4 := by omega
      have heven : ((m : Int) % 2 == 1) = false := by simp; omega
      have hme : m = (evenL l).length := by rw [HE.out, List.length_append, List.length_replicate, Hlen.out]; exact hm.out
      have Hme := Lib.hid hme
      clear h4 hme
      go_wp2_with fail
      go_ret
      have e := Hme.out
      exact ⟨A', c', by show Ending.returned (Value.slice A' m c') = _; rw [e], by rw [← e, HE.out]; exact Hown.out, hbel⟩

theorem OwnB.addr {w : World} {B : Nat} {A : Option Addr} {n c : Nat} {l : List Int} (h : OwnB w B A n c l) (hn : 0 < n) : ∃ g, A = some ⟨g, 0, none⟩ ∧ B ≤ g ∧ g < w.heap.size := by
  rcases h.2 with ⟨_, rfl⟩ | ⟨g, cap, cur, e, hB, hg, _⟩
  · omega
  · injection e with e1 _ _
    refine ⟨g, e1, hB, ?_⟩
    rcases Nat.lt_or_ge g w.heap.size with h' | h'
    · exact h'
    · rw [Array.getElem?_eq_none h'] at hg; cases hg
theorem map_set_u8 (l : List Int) (j : Nat) (x : Int) : (l.map (Value.int .u8)).set j (.int .u8 x) = (l.set j x).map (Value.int .u8) := by rw [List.map_set]
theorem OwnB.set_ {w : World} {B g n c : Nat} {l : List Int} (h : OwnB w B (some ⟨g, 0, none⟩) n c l) (j : Nat) (x : Int) : OwnB (w.setCell ⟨g, j, none⟩ (.int .u8 x)) B (some ⟨g, 0, none⟩) n c (l.set j x) := by
  have := (World.ownsRow.stored h j (.int .u8 x)).1
  rw [map_set_u8] at this
  exact this
theorem OwnB.cell {w : World} {B g n c : Nat} {l : List Int} (h : OwnB w B (some ⟨g, 0, none⟩) n c l) (j : Nat) (hj : j < n) : w.cell? ⟨g, j, none⟩ = some (.int .u8 (l.getD j 0)) := by
  have hl := h.len
  rw [World.ownsRow.cellAt h j (by omega), List.getElem?_map, List.getElem?_eq_getElem (by omega)]
  simp [List.getD, List.getElem?_eq_getElem (show j < l.length by omega)]
theorem OwnB.below {w w' : World} {B B' : Nat} {A : Option Addr} {n c : Nat} {l : List Int} (h : OwnB w B A n c l) (hb : Below B' w w') (hg : ∀ g, A = some ⟨g, 0, none⟩ → g < B') : OwnB w' B A n c l := by
  refine ⟨h.1, ?_⟩
  rcases h.2 with h0 | ⟨g, cap, cur, e, hB, hc, hrest⟩
  · exact .inl h0
  · refine .inr ⟨g, cap, cur, e, hB, ?_, hrest⟩
    rw [hb.block g (hg g (by injection e))]
    exact hc

/-- Nothing told; the row is as the list says now, and nothing older than the row has turned. -/
def LayIs (B : Nat) (A : Option Addr) (n c : Nat) (l : List Int) (w : World) (e : Ending) (w' : World) : Prop := e = .returned (.tuple #[]) ∧ OwnB w' B A n c l ∧ Below B w w' ∧ ∀ g, A = some ⟨g, 0, none⟩ → ∀ k, k ≠ g → w'.heap[k]? = w.heap[k]?

theorem lay_any (B : Nat) (A : Option Addr) (m c : Nat) (l : List Int) (a x : Int) (p K : Nat) (w : World) (hm : m ≤ 140737488355328) (hmp : m = 2 * p) (hp : 1 ≤ p) (ha : 0 ≤ a) (hK : a % (p : Int) = (K : Int)) (hx : U16 x) (h : OwnB w B A m c l) :
    Calls Try.prog 24 #[.slice A m c, .int .i64 a, .int .u16 x] w (LayIs B A m c (layL l K x) w) := by
  obtain ⟨g, rfl, hB, hg⟩ := h.addr (by omega)
  have hKp : K < p := by
    have := Int.emod_lt_of_pos a (show (0 : Int) < (p : Int) by omega)
    omega
  have hcap := h.cap
  have hq : (m : Int) / 2 = (p : Int) := by omega
  have hc1 := h.cell (2 * K) (by omega)
  have hc2 := h.cell (2 * K + 1) (by omega)
  have hf1 : w.frozen? ⟨g, 2 * K, none⟩ = false := World.ownsRow.frozenAt h _
  have hf2 : w.frozen? ⟨g, 2 * K + 1, none⟩ = false := World.ownsRow.frozenAt h _
  have hi1 : 2 * (K : Int) + 1 < (m : Int) := by omega
  have hi2 : 2 * K + 1 < m := by omega
  have hp1 : 1 ≤ (p : Int) := by omega
  have hne : ((p : Int) == 0) = false := by simp; omega
  obtain ⟨hx0, hx1⟩ := id hx
  have Hw := Lib.hid ((h.set_ (2 * K) (x / 256)).set_ (2 * K + 1) (x % 256))
  have hmi : (m : Int) ≤ 140737488355328 := by omega
  have hbnd : 2 * (K : Int) + 1 ≤ 140737488355328 := by omega
  clear hmp h hcap hx
  go_enter Try.func24, Try.ntmps24
  go_wp2_with fail
  go_end0
  refine ⟨rfl, Hw.out, ((Below.refl _ _).setCell hB _).setCell hB _, ?_⟩
  intro g' hg' k hk
  injection hg' with hg'
  injection hg' with hg'
  subst hg'
  rw [Below.heap_setCell _ _ _ _ hk, Below.heap_setCell _ _ _ _ hk]

/-- A number told; memory was read in some order. -/
def ReadIs (x : Int) (w : World) (e : Ending) (w' : World) : Prop := e = .returned (.int .u16 x) ∧ ∃ n, w' = w.drewN n

theorem word2_any (A : Option Addr) (m c : Nat) (l : List Int) (a : Int) (p K : Nat) (w : World) (hm : m ≤ 140737488355328) (hmp : m = 2 * p) (hp : 1 ≤ p) (ha : 0 ≤ a) (hK : a % (p : Int) = (K : Int)) (h : Rd w A m l) :
    Calls Try.prog 26 #[.slice A m c, .int .i64 a] w (ReadIs (wordL l K) w) := by
  have hKp : K < p := by
    have := Int.emod_lt_of_pos a (show (0 : Int) < (p : Int) by omega)
    omega
  obtain ⟨b, o, rfl, hb, hc⟩ := h.at_ (by omega)
  have hq : (m : Int) / 2 = (p : Int) := by omega
  have hc1 := hc (2 * K) (by omega)
  have hc2 := hc (2 * K + 1) (by omega)
  have hx := getD_byte h.byte (2 * K)
  have hy := getD_byte h.byte (2 * K + 1)
  obtain ⟨x, ex⟩ : ∃ x, l.getD (2 * K) 0 = x := ⟨_, rfl⟩
  obtain ⟨y, ey⟩ : ∃ y, l.getD (2 * K + 1) 0 = y := ⟨_, rfl⟩
  have Hw := Lib.hid (show wordL l K = x * 256 + y by unfold wordL; rw [ex, ey])
  rw [ex] at hc1 hx
  rw [ey] at hc2 hy
  have hor := or16 x y hx hy
  have hi1 : 2 * (K : Int) + 1 < (m : Int) := by omega
  have hi0 : 2 * (K : Int) < (m : Int) := by omega
  have hk0 : 0 ≤ 2 * (K : Int) := by omega
  have hp1 : 1 ≤ (p : Int) := by omega
  have hne : ((p : Int) == 0) = false := by simp; omega
  obtain ⟨hx0, hx1⟩ := id hx
  obtain ⟨hy0, hy1⟩ := id hy
  have hmi : (m : Int) ≤ 140737488355328 := by omega
  have hbnd : 2 * (K : Int) + 1 ≤ 140737488355328 := by omega
  have hw2 : IntKind.i64.wrap (2 * (K : Int) + 1) = 2 * (K : Int) + 1 := IntWalk.i64_in _ (by omega)
  have hc2 : w.cell? ⟨b, o + (2 * (K : Int) + 1).toNat, none⟩ = some (.int .u8 y) := by rw [show (2 * (K : Int) + 1).toNat = 2 * K + 1 by omega]; exact hc2
  have hc1 : w.cell? ⟨b, o + (2 * (K : Int)).toNat, none⟩ = some (.int .u8 x) := by rw [show (2 * (K : Int)).toNat = 2 * K by omega]; exact hc1
  clear hmp h hc ex ey hx hy
  go_enter Try.func26, Try.ntmps26
  go_wp2_with fail
  go_quiet (fail)
  go_wp2_with fail
  go_ret
  exact ⟨ret_int Hw.out.symm, _, rfl⟩

theorem zeros_any (A : Option Addr) (m c : Nat) (l : List Int) (a : Int) (p K : Nat) (w : World) (hm : m ≤ 140737488355328) (hmp : m = 2 * p) (hp : 1 ≤ p) (ha : 0 ≤ a) (hK : a % (p : Int) = (K : Int)) (h : Rd w A m l) :
    Calls Try.prog 25 #[.slice A m c, .int .i64 a] w fun e w' => e = .returned (.bool (decide (restL l K = 0))) ∧ w = w' := by
  have hKp : K < p := by
    have := Int.emod_lt_of_pos a (show (0 : Int) < (p : Int) by omega)
    omega
  have hlen := Lib.hid h.len
  have hq : (m : Int) / 2 = (p : Int) := by omega
  have hp1 : 1 ≤ (p : Int) := by omega
  have hne : ((p : Int) == 0) = false := by simp; omega
  have hmi : (m : Int) ≤ 140737488355328 := by omega
  have Hz := Lib.hid (restL_zero h.byte K (by have := h.len; omega))
  have Hk := Lib.hid hKp
  clear hmp hKp
  go_enter Try.func25, Try.ntmps25
  go_wp2_with fail
  go_loopg [5] m (fun gk i wr => ∃ k : Nat, Hid (gk + k = m) ∧ k ≤ m ∧ i = .int .i64 (k : Int) ∧ Hid (∀ j, j < k → l.getD j 0 = 0 ∨ j / 2 = K) ∧ wr = w)
  case atStart => exact ⟨0, rfl, Nat.zero_le _, rfl, fun j hj => by omega, rfl⟩
  case round =>
    obtain ⟨k, hgk, hk, rfl, hall, rfl⟩ := hrel
    by_cases hlt : k < m
    · obtain ⟨q, hrunq, hcellq, hqb⟩ := h.index (c := c) hlt
      have hx := getD_byte h.byte k
      obtain ⟨x, ex⟩ : ∃ x, l.getD k 0 = x := ⟨_, rfl⟩
      rw [ex] at hcellq hx
      have Hex := Lib.hid ex
      clear ex
      by_cases hx0 : x = 0
      · have hxb : (x != 0) = false := by simp [hx0]
        have Hx0 := Lib.hid hx0
        clear hx0
        go_wp2_with fail
        go_roundg (gk - 1)
        case measure => have := hgk.out; omega
        case rel => exact ⟨k + 1, by have := hgk.out; show gk - 1 + (k + 1) = _; omega, by omega, by go_num, fun j hj => by
          by_cases e : j = k
          · subst e; exact .inl (by rw [Hex.out, Hx0.out])
          · exact hall.out j (by omega), rfl⟩
      · have hxb : (x != 0) = true := by simpa using hx0
        by_cases hkk : k / 2 = K
        · have hkb : ((k : Int) / 2 != (K : Int)) = false := by simp; omega
          have Hkk := Lib.hid hkk
          clear hkk hx0
          go_wp2_with fail
          go_roundg (gk - 1)
          case measure => have := hgk.out; omega
          case rel => exact ⟨k + 1, by have := hgk.out; show gk - 1 + (k + 1) = _; omega, by omega, by go_num, fun j hj => by
            by_cases e : j = k
            · subst e; exact .inr Hkk.out
            · exact hall.out j (by omega), rfl⟩
        · have hkb : ((k : Int) / 2 != (K : Int)) = true := by simp; omega
          have Hkk := Lib.hid hkk
          have Hx0 := Lib.hid hx0
          clear hkk hx0
          go_wp2_with fail
          go_ret
          refine ⟨ret_bool (Eq.symm (decide_eq_false ?_)), rfl⟩
          intro h0
          rcases Hz.out.1 h0 k (by have := hlen.out; omega) with h1 | h1
          · rw [Hex.out] at h1; exact Hx0.out h1
          · exact Hkk.out h1
    · go_wp2_with fail
      go_ret
      exact ⟨ret_bool (Eq.symm (decide_eq_true (Hz.out.2 (fun j hj => hall.out j (by have := hlen.out; omega))))), rfl⟩

theorem OwnB.capMax {w : World} {B : Nat} {A : Option Addr} {n c : Nat} {l : List Int} (h : OwnB w B A n c l) : c ≤ maxLen := by
  rcases h.2 with ⟨e, _⟩ | ⟨g, cap, cur, e, _, _, _, hcm, _⟩
  · injection e with _ _ e3; subst e3; simp
  · injection e with _ _ e3; subst e3; exact hcm
/-- A row of the call's own, told with its length and its list by name. -/
def RowIs (m : Nat) (l : List Int) (w : World) (e : Ending) (w' : World) : Prop := ∃ A c, e = .returned (.slice A m c) ∧ m ≤ c ∧ c ≤ maxLen ∧ OwnB w' w.heap.size A m c l ∧ Below w.heap.size w w'
theorem even_told (A : Option Addr) (n c : Nat) (l la : List Int) (m : Nat) (w : World) (hn : n ≤ 140737488351232) (h : Rd w A n l) (he : Hid (evenL l = la)) (hm : Hid (la.length = m)) :
    Calls Try.prog 23 #[.slice A n c] w (RowIs m la w) := by
  have := he.out; subst this
  have := hm.out; subst this
  exact (even_any A n c l w hn h).mono fun e w' ⟨A', c', h1, h2, h3⟩ => ⟨A', c', h1, h2.cap, h2.capMax, h2, h3⟩

theorem OwnB.on {w w' : World} {B : Nat} {A : Option Addr} {n c : Nat} {l : List Int} (h : OwnB w B A n c l) (hb : Below w.heap.size w w') : OwnB w' B A n c l := by
  refine h.below hb (fun g e => ?_)
  rcases h.2 with ⟨e0, _⟩ | ⟨g', cap, cur, e1, _, hg, _⟩
  · injection e0 with e0 _ _; rw [e0] at e; cases e
  · injection e1 with e1 _ _
    rw [e1] at e
    injection e with e
    injection e with e
    subst e
    rcases Nat.lt_or_ge g' w.heap.size with h' | h'
    · exact h'
    · rw [Array.getElem?_eq_none h'] at hg; cases hg
theorem OwnB.drewN {w : World} {B : Nat} {A : Option Addr} {n c : Nat} {l : List Int} (h : OwnB w B A n c l) (k : Nat) : OwnB (w.drewN k) B A n c l := h

/-- What a law's round holds on to: nothing older has turned, and the row of its own is as the list says. -/
structure Hold (w : World) (A : Option Addr) (m c : Nat) (l : List Int) (wr : World) : Prop where
  old : Below w.heap.size w wr
  own : OwnB wr w.heap.size A m c l
theorem Hold.on {w : World} {A : Option Addr} {m c : Nat} {l : List Int} {wr w' : World} (h : Hold w A m c l wr) (hb : Below wr.heap.size wr w') : Hold w A m c l w' := ⟨below_trans h.old hb, h.own.on hb⟩
theorem Hold.drewN {w : World} {A : Option Addr} {m c : Nat} {l : List Int} {wr : World} (h : Hold w A m c l wr) (n : Nat) : Hold w A m c l (wr.drewN n) := ⟨⟨h.old.os, h.old.tape, h.old.output, h.old.size, h.old.block⟩, h.own⟩
theorem Hold.drawn {w : World} {A : Option Addr} {m c : Nat} {l : List Int} {wr : World} (h : Hold w A m c l wr) (n : Nat) : Hold w A m c l { wr with drawn := n } := ⟨⟨h.old.os, h.old.tape, h.old.output, h.old.size, h.old.block⟩, h.own⟩
theorem Hold.lay {w : World} {A : Option Addr} {m c : Nat} {l l' : List Int} {wr w' : World} {e : Ending} (h : Hold w A m c l wr) (hl : LayIs w.heap.size A m c l' wr e w') : Hold w A m c l' w' := ⟨h.old.trans hl.2.2.1, hl.2.1⟩
theorem on_alloc {w w' : World} {o : Obj} (hb : Below (w.alloc o).heap.size (w.alloc o) w') : Below w.heap.size w w' := ((Below.refl _ _).alloc (Nat.le_refl _) _).trans (hb.mono (by simp))

end Go.Proofs.Ytghpndcninbniaa
