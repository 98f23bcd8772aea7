/-
  The contracts of package opts' search, and of what it finds: Mss, Scale, SackOk, Sacks.
-/
import Derived.Test.YtikfklbgncdbnaaOptRead
namespace Go.Proofs.Ytikfklbgncdbnaa
set_option maxRecDepth 10000
open Go.RowKit

/-- A slice of ints. -/
structure RdI (w : World) (A : Option Addr) (n : Nat) (l : List Int) : Prop where
  len : l.length = n
  at_ : 0 < n → ∃ b o, A = some ⟨b, o, none⟩ ∧ b < w.heap.size ∧ ∀ i, i < n → w.cell? ⟨b, o + i, none⟩ = some (.int .i64 (l.getD i 0))
theorem RdI.below {w w' : World} {A : Option Addr} {n : Nat} {l : List Int} (h : RdI w A n l) (hb : Below w.heap.size w w') : RdI w' A n l :=
  ⟨h.len, fun hn => by
    obtain ⟨b, o, e, hlt, hc⟩ := h.at_ hn
    exact ⟨b, o, e, Nat.lt_of_lt_of_le hlt hb.size, fun i hi => by rw [hb.cell (p := ⟨b, o + i, none⟩) hlt]; exact hc i hi⟩⟩
theorem RdI.index {w : World} {A : Option Addr} {n c : Nat} {l : List Int} (h : RdI w A n l) {j : Nat} (hj : j < n) :
    ∃ p, (∀ W : World, (Instr.indexAt 103 (.slice A n c) (.int .i64 (j : Int))).run Try.prog W = .ok (.pointer (some p)) W) ∧ w.cell? p = some (.int .i64 (l.getD j 0)) ∧ p.block < w.heap.size := by
  obtain ⟨b, o, rfl, hb, hc⟩ := h.at_ (by omega)
  have h0 : (0 : Int) ≤ (j : Int) := by omega
  have h1 : (j : Int) < (n : Int) := by omega
  exact ⟨⟨b, o + j, none⟩, fun W => by go_simp, hc j hj, hb⟩
theorem RdI.const (w : World) (g : Nat) (hg : w.heap.size = g) (l : List Int) (t : TypeId) (fr : Nat × Nat) : RdI (w.alloc (.cells (l.map (Value.int .i64)).toArray t fr)) (some ⟨g, 0, none⟩) l.length l := by
  subst hg
  refine ⟨rfl, fun _ => ⟨w.heap.size, 0, rfl, by simp, fun i hi => ?_⟩⟩
  rw [World.cell?_alloc_mark]
  simp [List.getD, List.getElem?_eq_getElem hi]

def IdxOf (x : Bool) (w : World) (e : Ending) (w' : World) : Prop := ∃ i : Int, e = .returned (.int .i64 i) ∧ decide (0 ≤ i) = x ∧ w = w'
theorem index_any (A : Option Addr) (n c : Nat) (l : List Int) (v : Int) (w : World) (hn : n ≤ 1000000) (hr : RdI w A n l) :
    Calls Try.prog 80 #[.slice A n c, .int .i64 v] w (IdxOf (l.contains v) w) := by
  have Hl := Lib.hid hr.len
  have Hr := Lib.hid hr
  clear hr
  go_enter Try.func80, Try.ntmps80
  go_wp2_with fail
  go_loopg [8] n (fun gk i wr => ∃ j : Nat, Hid (gk + j = n) ∧ j ≤ n ∧ i = .int .i64 (j : Int) ∧ Hid ((l.take j).contains v = false) ∧ w = wr)
  case atStart => exact ⟨0, rfl, Nat.zero_le _, rfl, Lib.hid (by simp), rfl⟩
  case round =>
    obtain ⟨j, hgk, hj, rfl, hno, rfl⟩ := hrel
    by_cases hjn : j < n
    · obtain ⟨p, hi, hc, hp⟩ := Hr.out.index (c := c) hjn
      have hsn := take_snoc_ l j 0 (by rw [Hl.out]; exact hjn)
      have hmem : l.getD j 0 ∈ l := by have := Hl.out; simp only [List.getD, List.getElem?_eq_getElem (show j < l.length by omega), Option.getD_some]; exact List.getElem_mem _
      obtain ⟨y, ey⟩ : ∃ y, l.getD j 0 = y := ⟨_, rfl⟩
      rw [ey] at hc hsn hmem
      have Hsn := Lib.hid hsn
      have Hmem := Lib.hid hmem
      clear ey hsn hmem
      by_cases hv : v = y
      · subst hv
        go_wp2_with fail
        go_ret
        exact ⟨j, rfl, by simpa using Hmem.out, rfl⟩
      · have hv2 : (v == y) = false := by simpa using hv
        have Hno := Lib.hid (show (l.take (j + 1)).contains v = false by
          have h := hno.out
          rw [Hsn.out]
          simp only [List.contains_eq_mem, decide_eq_false_iff_not, List.mem_append, List.mem_singleton] at h ⊢
          exact fun h2 => h2.elim h hv)
        clear hv
        go_wp2_with fail
        go_roundg (gk - 1)
        case measure => have := hgk.out; omega
        case rel => exact ⟨j + 1, by have := hgk.out; show gk - 1 + (j + 1) = _; omega, by omega, by go_num, Hno, rfl⟩
    · obtain rfl : n = j := by omega
      have Hno := Lib.hid (show l.contains v = false by have h := hno.out; rwa [List.take_of_length_le (by rw [Hl.out]; omega)] at h)
      go_wp2_with fail
      go_ret
      exact ⟨-1, rfl, by rw [Hno.out]; rfl, rfl⟩

theorem contains_any (A : Option Addr) (n c : Nat) (l : List Int) (v : Int) (w : World) (hn : n ≤ 1000000) (hr : RdI w A n l) :
    Calls Try.prog 72 #[.slice A n c, .int .i64 v] w fun e w' => e = .returned (.bool (l.contains v)) ∧ w = w' := by
  have Hi := Lib.hid (index_any A n c l v w hn hr)
  clear hr
  go_enter Try.func72, Try.ntmps72
  go_wp2_with fail
  refine Hi.out.mono ?_
  rintro e w2 ⟨i, rfl, hx, rfl⟩
  have Hx := Lib.hid hx
  clear hx
  go_wp2_with fail
  go_ret
  exact ⟨by rw [← Hx.out]; rfl, rfl⟩

/-- What search tells: what finds the Data of the first option of a kind and of one of the lengths. -/
def SearchIs (kd : Int) (AL : Option Addr) (nl cl : Nat) (w : World) (e : Ending) (w' : World) : Prop :=
  ∃ p q, e = .returned (.func (.func 71) #[] #[.pointer (some ⟨p, 0, none⟩), .pointer (some ⟨q, 0, none⟩)]) ∧ Box w' p 5 (.int .u8 kd) ∧ Box w' q 103 (.slice AL nl cl) ∧ Below w.heap.size w w'
theorem search_any (kd : Int) (AL : Option Addr) (nl cl : Nat) (w : World) :
    Calls Try.prog 50 #[.int .u8 kd, .slice AL nl cl] w (SearchIs kd AL nl cl w) := by
  have hmf : ∀ (fn : Fn) (first cap : Array Value) (w : World), (Instr.makeFunc fn first cap).run Try.prog w = .ok (.func fn first cap) w := fun _ _ _ _ => rfl
  have H1 := Lib.hid ((Box.new w 5 (.int .u8 kd)).alloc (.cells #[.slice AL nl cl] 103))
  have H2 := Lib.hid (Box.new (w.alloc (.cells #[.int .u8 kd] 5)) 103 (.slice AL nl cl))
  have Hb := Lib.hid (((Below.refl w.heap.size w).alloc (Nat.le_refl _) (.cells #[.int .u8 kd] 5)).alloc (by simp) (.cells #[.slice AL nl cl] 103))
  go_enter Try.func50, Try.ntmps50
  go_wp2_with fail
  go_ret
  exact ⟨_, _, rfl, H1.out, by simpa using H2.out, Hb.out⟩

def findP (kd : Int) (longs : List Int) (l : Int × List Int) : Bool := decide (l.1 = kd) && longs.contains (l.2.length : Int)
/-- The Data of the first option that a test finds; none. -/
def FindIs (p : Int × List Int → Bool) (ls : List (Int × List Int)) (w : World) (e : Ending) (w' : World) : Prop :=
  Below w.heap.size w w' ∧ ((ls.find? p = none ∧ e = .returned (.tuple #[.slice none 0 0, .bool false])) ∨
    ∃ l A n c, ls.find? p = some l ∧ e = .returned (.tuple #[.slice A n c, .bool true]) ∧ n ≤ c ∧ c ≤ maxLen ∧ Rd w' A n l.2)
theorem search1_any (kd : Int) (p q : Nat) (AL : Option Addr) (nl cl : Nat) (longs : List Int) (A : Option Addr) (n c : Nat) (os : List OptV) (ls : List (Int × List Int)) (w : World) (hnl : nl ≤ 1000000) (hn : n ≤ 1000000)
    (hp : Box w p 5 (.int .u8 kd)) (hq : Box w q 103 (.slice AL nl cl)) (hi : RdI w AL nl longs) (hr : RdO w A n os) (hs : Reads w os ls) :
    Calls Try.prog 71 #[.slice A n c, .pointer (some ⟨p, 0, none⟩), .pointer (some ⟨q, 0, none⟩)] w (FindIs (findP kd longs) ls w) := by
  have Hl := Lib.hid (show ls.length = n by rw [← hs.len, hr.len])
  have Hr := Lib.hid hr
  have Hs := Lib.hid hs
  have Hp := Lib.hid hp
  have Hq := Lib.hid hq
  have Hi := Lib.hid hi
  clear hr hs hp hq hi
  go_enter Try.func71, Try.ntmps71
  go_wp2_with fail
  go_loopg [10] n (fun gk i wr => ∃ j : Nat, Hid (gk + j = n) ∧ j ≤ n ∧ i = .int .i64 (j : Int) ∧ Hid ((ls.take j).find? (findP kd longs) = none) ∧ Below w.heap.size w wr)
  case atStart => exact ⟨0, rfl, Nat.zero_le _, rfl, Lib.hid (by simp), Below.refl _ _⟩
  case round =>
    obtain ⟨j, hgk, hj, rfl, hno, hb⟩ := hrel
    by_cases hjn : j < n
    · have hjn := hjn
      obtain ⟨b1, p1, hrun1, hb1, hk0, hd0⟩ := Hr.out.index (c := c) hjn
      have o1 := Hs.out.get j (by rw [Hr.out.len]; exact hjn)
      obtain ⟨v1, ev1⟩ : ∃ v, os.getD j .none = v := ⟨_, rfl⟩
      obtain ⟨l1, el1⟩ : ∃ v, ls.getD j (0, []) = v := ⟨_, rfl⟩
      rw [ev1] at hk0 hd0 o1
      rw [el1] at o1
      obtain ⟨kd1, A1, n1, c1⟩ := v1
      obtain ⟨t1, d1⟩ := l1
      obtain ⟨rfl, hkb, hnc, hcm, r1⟩ := o1
      simp only at hk0 hd0 hkb hnc hcm r1
      have hk1 := (hb.cell (p := ⟨b1, p1, none⟩) hb1).trans hk0
      have hd1 := (hb.cell (p := ⟨b1, p1 + 1, none⟩) hb1).trans hd0
      have El1 := Lib.hid el1
      have Hd1 := Lib.hid r1.len
      have Hr1 := Lib.hid r1
      clear ev1 el1 r1 hk0 hd0
      obtain ⟨g1, eg1⟩ : ∃ g1, wr.heap.size = g1 := ⟨_, rfl⟩
      have hbl := hb.alloc hb.size (.cells #[.int .u8 kd1, .slice A1 n1 c1] 31)
      have hpc := (Hp.out.below hbl Hp.out.lt).cell
      have hqc := (Hq.out.below hbl Hq.out.lt).cell
      have Hbl := Lib.hid hbl
      have Hfa := Lib.hid (show findP kd longs (ls.getD j (0, [])) = (decide (kd1 = kd) && longs.contains (n1 : Int)) by rw [El1.out]; unfold findP; simp only [Hd1.out])
      clear hbl
      by_cases h1 : kd1 = kd
      · subst h1
        have Hc := Lib.hid (contains_any AL nl cl longs n1 _ hnl (Hi.out.below Hbl.out))
        go_wp2_with fail
        refine Hc.out.mono ?_
        rintro e w2 ⟨rfl, rfl⟩
        by_cases hc2 : longs.contains (n1 : Int) = true
        · have Hfind := Lib.hid (find_at (by rw [Hl.out]; exact hjn) hno.out (show findP kd1 longs (ls.getD j (0, [])) = true by rw [Hfa.out, hc2]; simp))
          rw [hc2]
          clear hc2
          go_wp2_with fail
          go_ret2
          exact ⟨Hbl.out, .inr ⟨_, A1, n1, c1, Hfind.out, rfl, hnc, hcm, by rw [El1.out]; exact Hr1.out.below Hbl.out⟩⟩
        · have hc3 : longs.contains (n1 : Int) = false := by simpa using hc2
          have Hno := Lib.hid (find_snoc (by rw [Hl.out]; exact hjn) hno.out (show findP kd1 longs (ls.getD j (0, [])) = false by rw [Hfa.out, hc3]; simp))
          rw [hc3]
          clear hc2 hc3
          go_wp2_with fail
          go_roundg (gk - 1)
          case measure => have := hgk.out; omega
          case rel => exact ⟨j + 1, by have := hgk.out; show gk - 1 + (j + 1) = _; omega, by omega, by go_num, Hno, Hbl.out⟩
      · have h2 : (kd1 == kd) = false := by simpa using h1
        have Hno := Lib.hid (find_snoc (by rw [Hl.out]; exact hjn) hno.out (show findP kd longs (ls.getD j (0, [])) = false by rw [Hfa.out]; simp [h1]))
        clear h1
        go_wp2_with fail
        go_roundg (gk - 1)
        case measure => have := hgk.out; omega
        case rel => exact ⟨j + 1, by have := hgk.out; show gk - 1 + (j + 1) = _; omega, by omega, by go_num, Hno, Hbl.out⟩
    · obtain rfl : n = j := by omega
      have Hno := Lib.hid (show ls.find? (findP kd longs) = none by have h := hno.out; rwa [List.take_of_length_le (by rw [Hl.out]; omega)] at h)
      go_wp2_with fail
      go_ret2
      exact ⟨hb, .inl ⟨Hno.out, rfl⟩⟩
end Go.Proofs.Ytikfklbgncdbnaa
