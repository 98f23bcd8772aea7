/-
  Texts laid together: OptsPut, OptSame, TcpAsk.
-/
import Derived.Test.YtheknmihnkennaaGreatZC09
import Derived.Test.YtheknmihnkennaaGreatZC12
import Derived.Test.YtheknmihnkennaaGreatZC04
import Derived.Laws.BytesArg
import Derived.Laws.IdiomStrings
import Derived.Lib.SlBytesConst

/-
  The contract of package opts' Put: whether options may be, and their bytes.
-/
namespace Go.Proofs.YtheknmihnkennaaGreat
set_option maxRecDepth 10000
open Go.RowKit

theorem may1_any (kd : Int) (A : Option Addr) (n c : Nat) (w : World) :
    Calls Tryz.prog 118 #[.agg #[.int .u8 kd, .slice A n c]] w (OptBool (decide (kd = 0 ∨ kd = 1 ∨ 38 < n)) w) := by
  have hb : Below w.heap.size w (w.alloc (.cells #[.int .u8 kd, .slice A n c] 142)) := (Below.refl _ _).alloc (Nat.le_refl _) _
  have Hb := Lib.hid hb
  clear hb
  by_cases h0 : kd = 0
  · subst h0
    go_enter Tryz.func118, Tryz.ntmps118
    go_wp2_with fail
    go_ret
    exact ⟨by simp, Hb.out⟩
  · have h0' : (kd == 0) = false := by simpa using h0
    by_cases h1 : kd = 1
    · subst h1
      go_enter Tryz.func118, Tryz.ntmps118
      go_wp2_with fail
      go_ret
      exact ⟨by simp, Hb.out⟩
    · have h1' : (kd == 1) = false := by simpa using h1
      have Hx := Lib.hid (show decide (kd = 0 ∨ kd = 1 ∨ 38 < n) = decide (38 < (n : Int)) by simp [h0, h1]; omega)
      clear h0 h1
      go_enter Tryz.func118, Tryz.ntmps118
      go_wp2_with fail
      go_ret
      exact ⟨by rw [Hx.out]; rfl, Hb.out⟩

theorem badB_eq {kd : Int} {d : List Int} {n : Nat} (h0 : 0 ≤ kd) (hn : d.length = n) : decide (kd = 0 ∨ kd = 1 ∨ 38 < n) = badB (kd, d) := by
  unfold badB
  simp only [hn]
  by_cases h : kd < 2 <;> by_cases h2 : 38 < n <;> simp [h, h2] <;> omega

/-- Where the first is, of which a function says so, or -1. -/
def IdxIs (x : Bool) (w : World) (e : Ending) (w' : World) : Prop := ∃ i : Int, e = .returned (.int .i64 i) ∧ decide (0 ≤ i) = x ∧ Below w.heap.size w w'
theorem indexf_any (A : Option Addr) (n c : Nat) (os : List OptV) (ls : List (Int × List Int)) (w : World) (hn : n ≤ 140737488355328) (hr : RdO w A n os) (hs : Reads w os ls) :
    Calls Tryz.prog 119 #[.slice A n c, .func (.func 118) #[] #[]] w (IdxIs (ls.any badB) w) := by
  have Hl := Lib.hid (show ls.length = n by rw [← hs.len, hr.len])
  have Hr := Lib.hid hr
  have Hs := Lib.hid hs
  clear hr hs
  go_enter Tryz.func119, Tryz.ntmps119
  go_wp2_with fail
  go_loopg [8] n (fun gk i wr => ∃ j : Nat, Hid (gk + j = n) ∧ j ≤ n ∧ i = .int .i64 (j : Int) ∧ Hid ((ls.take j).any badB = false) ∧ Below w.heap.size w wr)
  case atStart => exact ⟨0, rfl, Nat.zero_le _, rfl, Lib.hid (by simp), Below.refl _ _⟩
  case round =>
    obtain ⟨j, hgk, hj, rfl, hno, hb⟩ := hrel
    by_cases hjn : j < n
    · have hjn := hjn
      obtain ⟨b1, p1, hrun1, hb1, hk0, hd0⟩ := Hr.out.index (c := c) hjn
      have o1 := Hs.out.get j (by rw [Hr.out.len]; exact hjn)
      obtain ⟨v1, ev1⟩ : ∃ v, os.getD j .none = v := ⟨_, rfl⟩
      obtain ⟨l1, el1⟩ : ∃ v, ls.getD j (0, []) = v := ⟨_, rfl⟩
      rw [ev1] at hk0 hd0 o1
      rw [el1] at o1
      obtain ⟨kd1, A1, n1, c1⟩ := v1
      obtain ⟨t1, d1⟩ := l1
      obtain ⟨rfl, hkb, hnc, hcm, r1⟩ := o1
      simp only at hk0 hd0 hkb hnc hcm r1
      have hk1 := (hb.cell (p := ⟨b1, p1, none⟩) hb1).trans hk0
      have hd1 := (hb.cell (p := ⟨b1, p1 + 1, none⟩) hb1).trans hd0
      have El1 := Lib.hid el1
      have Hd1 := Lib.hid r1.len
      have Hr1 := Lib.hid r1
      clear ev1 el1 r1 hk0 hd0
      have Hm := Lib.hid (may1_any kd1 A1 n1 c1 wr)
      rw [badB_eq hkb.1 Hd1.out] at Hm
      go_wp2_with fail
      refine Hm.out.mono ?_
      rintro e w2 ⟨rfl, hb2⟩
      have Hb2 := Lib.hid (hb.trans (hb2.mono hb.size))
      clear hb2
      by_cases hbad : badB (kd1, d1) = true
      · have Hany := Lib.hid (any_take (ls := ls) (j := j) (by rw [Hl.out]; exact hjn) (by rw [El1.out]; exact hbad))
        go_wp2_with fail
        go_ret
        exact ⟨j, rfl, by rw [Hany.out]; simp, Hb2.out⟩
      · have hbad' : badB (kd1, d1) = false := by simpa using hbad
        have Hno := Lib.hid (show (ls.take (j + 1)).any badB = false by rw [take_snoc_ ls j (0, []) (by rw [Hl.out]; exact hjn), List.any_append, hno.out, El1.out]; simp [hbad'])
        clear hbad
        go_wp2_with fail
        go_roundg (gk - 1)
        case measure => have := hgk.out; omega
        case rel => exact ⟨j + 1, by have := hgk.out; show gk - 1 + (j + 1) = _; omega, by omega, by go_num, Hno, Hb2.out⟩
    · obtain rfl : j = n := by omega
      have Hno := Lib.hid (show ls.any badB = false by have h := hno.out; rwa [List.take_of_length_le (by rw [Hl.out]; omega)] at h)
      go_wp2_with fail
      go_ret
      exact ⟨-1, rfl, by rw [Hno.out]; rfl, hb⟩

theorem containsf_any (A : Option Addr) (n c : Nat) (os : List OptV) (ls : List (Int × List Int)) (w : World) (hn : n ≤ 140737488355328) (hr : RdO w A n os) (hs : Reads w os ls) :
    Calls Tryz.prog 117 #[.slice A n c, .func (.func 118) #[] #[]] w (OptBool (ls.any badB) w) := by
  have Hi := Lib.hid (indexf_any A n c os ls w hn hr hs)
  clear hr hs
  go_enter Tryz.func117, Tryz.ntmps117
  go_wp2_with fail
  refine Hi.out.mono ?_
  rintro e w2 ⟨i, rfl, hx, hb⟩
  have Hx := Lib.hid hx
  have Hb := Lib.hid hb
  clear hx hb
  go_wp2_with fail
  go_ret
  exact ⟨by rw [← Hx.out]; rfl, Hb.out⟩

theorem mayall_any (A : Option Addr) (n c : Nat) (os : List OptV) (ls : List (Int × List Int)) (w : World) (hn : n ≤ 140737488355328) (hr : RdO w A n os) (hs : Reads w os ls) :
    Calls Tryz.prog 116 #[.slice A n c] w (OptBool (!ls.any badB) w) := by
  have Hi := Lib.hid (containsf_any A n c os ls w hn hr hs)
  clear hr hs
  go_enter Tryz.func116, Tryz.ntmps116
  go_wp2_with fail
  refine Hi.out.mono ?_
  rintro e w2 ⟨rfl, hb⟩
  have Hb := Lib.hid hb
  clear hb
  go_wp2_with fail
  go_ret
  exact ⟨rfl, Hb.out⟩

theorem bytesO_two (ls : List (Int × List Int)) : 2 * ls.length ≤ (bytesO ls).length := by
  induction ls with
  | nil => simp
  | cons l ls ih => simp only [bytesO, List.flatMap_cons, List.length_append, List.length_cons, bytesOne, List.length_nil] at ih ⊢; omega
theorem put_any (A : Option Addr) (n c : Nat) (os : List OptV) (ls : List (Int × List Int)) (w : World) (hn : n ≤ 140737488355328) (hr : RdO w A n os) (hs : Reads w os ls) :
    Calls Tryz.prog 111 #[.slice A n c] w (PutO ls w) := by
  have Hm := Lib.hid (mayall_any A n c os ls w hn hr hs)
  have Hl := Lib.hid (show ls.length = n by rw [← hs.len, hr.len])
  have Hr := Lib.hid hr
  have Hs := Lib.hid hs
  clear hr hs
  go_enter Tryz.func111, Tryz.ntmps111
  go_wp2_with fail
  refine Hm.out.mono ?_
  rintro e w2 ⟨rfl, hb⟩
  by_cases hany : ls.any badB = true
  · have Hany := Lib.hid hany
    have hany2 : (!ls.any badB) = false := by rw [hany]; rfl
    rw [hany2]
    clear hany hany2
    go_wp2_with fail
    go_ret2
    unfold PutO
    rw [if_pos Hany.out]
    exact ⟨rfl, hb⟩
  · have hany' : ls.any badB = false := by simpa using hany
    have Hany := Lib.hid hany
    have hany2 : (!ls.any badB) = true := by rw [hany']; rfl
    have hall : ∀ j, j < n → (ls.getD j (0, [])).2.length ≤ 38 := by
      intro j hj
      rw [List.any_eq_false] at hany'
      have hlt : j < ls.length := by rw [Hl.out]; exact hj
      have hm : ls.getD j (0, []) ∈ ls := by simp only [List.getD, List.getElem?_eq_getElem hlt, Option.getD_some]; exact List.getElem_mem _
      exact (badB_false (by simpa using hany' _ hm)).2
    have Hall := Lib.hid hall
    have Hmem := Lib.hid (show ∀ l ∈ ls, l.2.length ≤ 38 from fun l hl => (badB_false (by rw [List.any_eq_false] at hany'; simpa using hany' l hl)).2)
    rw [hany2]
    clear hany hany' hany2 hall
    go_wp2_with fail
    go_loopg [4, 15] n (fun gk lo i wr => ∃ (j m2 : Nat), Hid (gk + j = n) ∧ j ≤ n ∧ m2 ≤ 40 * j ∧ lo = .int .i64 (m2 : Int) ∧ i = .int .i64 (j : Int) ∧ Hid ((bytesO (ls.take j)).length = m2) ∧ Below w.heap.size w wr)
    case atStart => exact ⟨0, 0, rfl, Nat.zero_le _, Nat.le_refl _, rfl, rfl, Lib.hid (by simp [bytesO]), hb⟩
    case round =>
      clear hb
      obtain ⟨j, m2, hgk, hj, hmj, rfl, rfl, hm2, hb⟩ := hrel
      by_cases hjn : j < n
      · have hjn := hjn
        obtain ⟨b1, p1, hrun1, hb1, hk0, hd0⟩ := Hr.out.index (c := c) hjn
        have o1 := Hs.out.get j (by rw [Hr.out.len]; exact hjn)
        obtain ⟨v1, ev1⟩ : ∃ v, os.getD j .none = v := ⟨_, rfl⟩
        obtain ⟨l1, el1⟩ : ∃ v, ls.getD j (0, []) = v := ⟨_, rfl⟩
        rw [ev1] at hk0 hd0 o1
        rw [el1] at o1
        obtain ⟨kd1, A1, n1, c1⟩ := v1
        obtain ⟨t1, d1⟩ := l1
        obtain ⟨rfl, hkb, hnc, hcm, r1⟩ := o1
        simp only at hk0 hd0 hkb hnc hcm r1
        have hk1 := (hb.cell (p := ⟨b1, p1, none⟩) hb1).trans hk0
        have hd1 := (hb.cell (p := ⟨b1, p1 + 1, none⟩) hb1).trans hd0
        have El1 := Lib.hid el1
        have Hd1 := Lib.hid r1.len
        have Hr1 := Lib.hid r1
        clear ev1 el1 r1 hk0 hd0
        have h38 : n1 ≤ 38 := by have h := Hall.out j hjn; rw [El1.out] at h; have := Hd1.out; simp only at h; omega
        have hw1 : IntKind.i64.wrap (2 + (n1 : Int)) = 2 + (n1 : Int) := IntWalk.i64_in _ (by omega)
        have hw2 : IntKind.i64.wrap ((m2 : Int) + (2 + (n1 : Int))) = (m2 : Int) + (2 + (n1 : Int)) := IntWalk.i64_in _ (by omega)
        have Hsn := Lib.hid (show (bytesO (ls.take (j + 1))).length = m2 + (2 + n1) by
          have := Hd1.out
          rw [take_snoc_ ls j (0, []) (by rw [Hl.out]; exact hjn), bytesO_snoc, List.length_append, hm2.out, El1.out]; simp [bytesOne]; omega)
        go_wp2_with fail
        go_roundg (gk - 1)
        case measure => have := hgk.out; omega
        case rel => exact ⟨j + 1, m2 + (2 + n1), by have := hgk.out; show gk - 1 + (j + 1) = _; omega, by omega, by omega, by go_num, by go_num, Hsn, hb.alloc hb.size _⟩
      · obtain rfl : n = j := by omega
        have hlen2 : (bytesO ls).length = m2 := by have h := hm2.out; rwa [List.take_of_length_le (by rw [Hl.out]; omega)] at h
        have Hlen2 := Lib.hid hlen2
        clear hlen2 hm2
        by_cases hlong : 40 < m2
        · have hli : 40 < (m2 : Int) := by omega
          go_wp2_with fail
          go_ret2
          unfold PutO
          rw [if_neg Hany.out, if_pos (by rw [Hlen2.out]; exact hlong)]
          exact ⟨rfl, hb⟩
        · have hli : (m2 : Int) ≤ 40 := by omega
          have hn20 : n ≤ 20 := by have h := bytesO_two ls; rw [Hlen2.out, Hl.out] at h; omega
          clear hn
          go_wp2_with fail
          go_loopg [7, 30] n (fun gk b i wr => ∃ (j m3 : Nat) (A2 : Option Addr) (c2 : Nat), Hid (gk + j = n) ∧ j ≤ n ∧ m3 ≤ 40 * j ∧ b = .slice A2 m3 c2 ∧ i = .int .i64 (j : Int) ∧ Hid (OwnB wr w.heap.size A2 m3 c2 (bytesO (ls.take j))) ∧ Below w.heap.size w wr)
          case atStart => exact ⟨0, 0, none, 0, rfl, Nat.zero_le _, Nat.le_refl _, rfl, rfl, Lib.hid (by simpa [bytesO] using OwnB.nil wr w.heap.size), hb⟩
          case round =>
            clear hb hgk
            obtain ⟨j, m3, A2, c2, hgk, hj, hmj3, rfl, rfl, hown, hb⟩ := hrel
            by_cases hjn : j < n
            · have hjn := hjn
              obtain ⟨b1, p1, hrun1, hb1, hk0, hd0⟩ := Hr.out.index (c := c) hjn
              have o1 := Hs.out.get j (by rw [Hr.out.len]; exact hjn)
              obtain ⟨v1, ev1⟩ : ∃ v, os.getD j .none = v := ⟨_, rfl⟩
              obtain ⟨l1, el1⟩ : ∃ v, ls.getD j (0, []) = v := ⟨_, rfl⟩
              rw [ev1] at hk0 hd0 o1
              rw [el1] at o1
              obtain ⟨kd1, A1, n1, c1⟩ := v1
              obtain ⟨t1, d1⟩ := l1
              obtain ⟨rfl, hkb, hnc, hcm, r1⟩ := o1
              simp only at hk0 hd0 hkb hnc hcm r1
              have hk1 := (hb.cell (p := ⟨b1, p1, none⟩) hb1).trans hk0
              have hd1 := (hb.cell (p := ⟨b1, p1 + 1, none⟩) hb1).trans hd0
              have El1 := Lib.hid el1
              have Hd1 := Lib.hid r1.len
              have Hr1 := Lib.hid r1
              clear ev1 el1 r1 hk0 hd0
              have h38 : n1 ≤ 38 := by have h := Hall.out j hjn; rw [El1.out] at h; have := Hd1.out; simp only at h; omega
              have hw8 : IntKind.u8.wrap (2 + (n1 : Int)) = 2 + (n1 : Int) := by simp [IntKind.wrap, IntKind.bits, IntKind.signed]; omega
              have hw1 : IntKind.i64.wrap (2 + (n1 : Int)) = 2 + (n1 : Int) := IntWalk.i64_in _ (by omega)
              have Hbo := Lib.hid (show ∀ x ∈ bytesO (ls.take j), 0 ≤ x ∧ x < 256 from bytesO_bytes (fun l hl => Hs.out.byte l (List.mem_of_mem_take hl)) (fun l hl => Hmem.out l (List.mem_of_mem_take hl)))
              obtain ⟨g1, eg1⟩ : ∃ g1, wr.heap.size = g1 := ⟨_, rfl⟩
              have hblk := heap_alloc_new wr (.cells #[.int .u8 kd1, .slice A1 n1 c1] 142)
              rw [eg1] at hblk
              have hba : Below wr.heap.size wr (wr.alloc (.cells #[.int .u8 kd1, .slice A1 n1 c1] 142)) := (Below.refl _ _).alloc (Nat.le_refl _) _
              have Hu := Lib.hid (u8_lays A2 m3 c2 _ kd1 (wr.alloc (.cells #[.int .u8 kd1, .slice A1 n1 c1] 142)) hkb ⟨hown.out.cap, hown.out.capMax⟩ (by omega) ((hown.out.rd Hbo.out).below hba))
              have Hblk := Lib.hid hblk
              have Hba := Lib.hid (hb.trans (hba.mono hb.size))
              have hg1 : w.heap.size ≤ g1 := by have := hb.size; omega
              clear hblk hba
              go_wp2_with fail
              refine Hu.out.mono ?_
              rintro e w3 ⟨A3, c3, rfl, h31, h32, hown3, hb3⟩
              have hblk3 := blk_on Hblk.out hb3
              have Hbo3 := Lib.hid (show ∀ x ∈ bytesO (ls.take j) ++ [kd1], 0 ≤ x ∧ x < 256 from bytes_app_ Hbo.out (by simpa using hkb))
              have Hu3 := Lib.hid (u8_lays A3 (m3 + 1) c3 _ (2 + (n1 : Int)) w3 (by omega) ⟨h31, h32⟩ (by omega) (hown3.rd Hbo3.out))
              have c30 := blk_cell hblk3 0
              have c31 := blk_cell hblk3 1
              have Hblk3 := Lib.hid hblk3
              have Hb3 := Lib.hid (Hba.out.trans (hb3.mono Hba.out.size))
              clear hblk3 hown3 hb3
              go_wp2_with fail
              refine Hu3.out.mono ?_
              rintro e w4 ⟨A4, c4, rfl, h41, h42, hown4, hb4⟩
              have hblk4 := blk_on Hblk3.out hb4
              have c40 := blk_cell hblk4 0
              have c41 := blk_cell hblk4 1
              have Hb4 := Lib.hid (Hb3.out.trans (hb4.mono Hb3.out.size))
              have Hown4 := Lib.hid (hown4.mono Hb3.out.size)
              have Hr4 := Lib.hid (Hr1.out.below Hb4.out)
              clear hblk4 hown4 hb4 c30 c31
              go_wp2_with (refine wpList_app rfl (.tmp 45) (.tmp 47) rfl w.heap.size A4 A1 (m3 + 1 + 1) c4 n1 c1 _ d1 rfl rfl Hown4.out Hr4.out (by omega) Hb4.out.size ?_; intro A5 c5 w5 hown5 _ hb5 _)
              go_roundg (gk - 1)
              case measure => have := hgk.out; omega
              case rel => exact ⟨j + 1, m3 + 1 + 1 + n1, A5, c5, by have := hgk.out; show gk - 1 + (j + 1) = _; omega, by omega, by omega, rfl, by go_num, Lib.hid (by
                rw [take_snoc_ ls j (0, []) (by rw [Hl.out]; exact hjn), bytesO_snoc, El1.out, show bytesOne (kd1, d1) = [kd1] ++ [2 + (n1 : Int)] ++ d1 by unfold bytesOne; rw [Hd1.out]; rfl, ← List.append_assoc, ← List.append_assoc]; exact hown5), Hb4.out.trans hb5⟩
            · obtain rfl : n = j := by omega
              have ho := hown.out
              rw [List.take_of_length_le (by rw [Hl.out]; omega)] at ho
              have hm3 : m3 = m2 := by rw [← ho.len, Hlen2.out]
              subst hm3
              obtain ⟨B0, eB⟩ : ∃ B0, bytesO ls = B0 := ⟨_, rfl⟩
              rw [eB] at ho Hlen2
              have HB0 := Lib.hid (show ∀ x ∈ B0, 0 ≤ x ∧ x < 256 from by rw [← eB]; exact bytesO_bytes (fun l hl => Hs.out.byte l hl) Hmem.out)
              have EB := Lib.hid eB
              have Ho := Lib.hid ho
              clear ho eB hown
              obtain ⟨P, eP⟩ : ∃ P, (4 - m3 % 4) % 4 = P := ⟨_, rfl⟩
              have EP := Lib.hid eP
              have hP : P < 4 := by omega
              clear eP
              go_wp2_with fail
              go_loopg [7] P (fun gk b wr => ∃ (t : Nat) (A3 : Option Addr) (c3 : Nat), Hid (gk + t = P) ∧ t ≤ P ∧ b = .slice A3 (m3 + t) c3 ∧ Hid (OwnB wr w.heap.size A3 (m3 + t) c3 (B0 ++ List.replicate t 0)) ∧ Below w.heap.size w wr)
              case atStart => exact ⟨0, A2, c2, rfl, Nat.zero_le _, rfl, Lib.hid (by simpa using Ho.out), hb⟩
              case round =>
                clear hb hgk
                obtain ⟨t, A3, c3, hgt, ht, rfl, hown3, hb3⟩ := hrel
                have hp := EP.out
                by_cases htP : t < P
                · have hmod : ((m3 + t : Nat) : Int) % 4 ≠ 0 := by omega
                  have hmod2 : (((m3 + t : Nat) : Int) % 4 == 0) = false := by simpa using hmod
                  have hmod3 : (((m3 + t : Nat) : Int) % 4 != 0) = true := by simpa using hmod
                  have Hu := Lib.hid (u8_lays A3 (m3 + t) c3 _ 0 wr (by omega) ⟨hown3.out.cap, hown3.out.capMax⟩ (by omega) (hown3.out.rd (bytes_app_ HB0.out (fun x hx => by rw [List.eq_of_mem_replicate hx]; omega))))
                  clear hmod hp
                  go_wp2_with fail
                  refine Hu.out.mono ?_
                  rintro e w4 ⟨A4, c4, rfl, h41, h42, hown4, hb4⟩
                  have Hb4 := Lib.hid (hb3.trans (hb4.mono hb3.size))
                  have Hown4 := Lib.hid (hown4.mono hb3.size)
                  clear hown4 hb4
                  go_wp2_with fail
                  go_roundg (gk - 1)
                  case measure => have := hgt.out; omega
                  case rel => exact ⟨t + 1, A4, c4, by have := hgt.out; show gk - 1 + (t + 1) = _; omega, by omega, rfl, Lib.hid (by rw [List.replicate_succ', ← List.append_assoc]; exact Hown4.out), Hb4.out⟩
                · obtain rfl : t = P := by omega
                  have hmod : ((m3 + t : Nat) : Int) % 4 = 0 := by omega
                  have hmod2 : (((m3 + t : Nat) : Int) % 4 == 0) = true := by simpa using hmod
                  have hmod3 : (((m3 + t : Nat) : Int) % 4 != 0) = false := by simpa using hmod
                  clear hmod hp
                  go_wp2_with fail
                  go_ret2
                  unfold PutO
                  rw [if_neg Hany.out, EB.out, if_neg (by rw [Hlen2.out]; exact hlong)]
                  have e : padTo4 B0 = B0 ++ List.replicate t 0 := by unfold padTo4; rw [Hlen2.out, EP.out]
                  have el : (padTo4 B0).length = m3 + t := by rw [e, List.length_append, Hlen2.out, List.length_replicate]
                  rw [el, e]
                  exact ⟨A3, c3, rfl, hown3.out, hb3⟩
end Go.Proofs.YtheknmihnkennaaGreat

/-
  The contracts of package opts' Same and Without, and of bytes.Equal.
-/
namespace Go.Proofs.YtheknmihnkennaaGreat
set_option maxRecDepth 10000
open Go.RowKit

theorem equal_any (A A' : Option Addr) (n n' c c' : Nat) (l l' : List Int) (w : World) (h : Rd w A n l) (h' : Rd w A' n' l') :
    Calls Tryz.prog 53 #[.slice A n c, .slice A' n' c'] w fun e w' => e = .returned (.bool (decide (l = l'))) ∧ w = w' := by
  have h1 := conv_rd h c
  have h2 := conv_rd h' c'
  have Hd := Lib.hid (strs_eq_ l l' h.byte h'.byte)
  clear h h'
  go_enter Tryz.func53, Tryz.ntmps53
  go_wp2
  go_ret
  exact ⟨ret_bool (Hd.out), rfl⟩

theorem same1_any (k1 k2 : Int) (A1 A2 : Option Addr) (n1 c1 n2 c2 : Nat) (d1 d2 : List Int) (w : World) (h1 : Rd w A1 n1 d1) (h2 : Rd w A2 n2 d2) :
    Calls Tryz.prog 87 #[.agg #[.int .u8 k1, .slice A1 n1 c1], .agg #[.int .u8 k2, .slice A2 n2 c2]] w (OptBool (decide ((k1, d1) = (k2, d2))) w) := by
  have hb := ((Below.refl w.heap.size w).alloc (Nat.le_refl _) (.cells #[.int .u8 k1, .slice A1 n1 c1] 142)).alloc (by simp) (.cells #[.int .u8 k2, .slice A2 n2 c2] 142)
  have He := Lib.hid (equal_any A1 A2 n1 n2 c1 c2 d1 d2 _ (h1.below hb) (h2.below hb))
  have Hb := Lib.hid hb
  clear h1 h2 hb
  by_cases hk : k1 = k2
  · subst hk
    go_enter Tryz.func87, Tryz.ntmps87
    go_wp2_with fail
    refine He.out.mono ?_
    rintro e w' ⟨rfl, rfl⟩
    go_wp2_with fail
    go_ret
    exact ⟨by simp, Hb.out⟩
  · have hk2 : (k1 == k2) = false := by simpa using hk
    have Hx := Lib.hid (show decide ((k1, d1) = (k2, d2)) = false by simp [hk])
    clear hk
    go_enter Tryz.func87, Tryz.ntmps87
    go_wp2_with fail
    go_ret
    exact ⟨by rw [Hx.out]; rfl, Hb.out⟩

theorem equalf_any (A A' : Option Addr) (n c n' c' : Nat) (os os' : List OptV) (ls ls' : List (Int × List Int)) (w : World) (hn : n ≤ 2000000) (hr : RdO w A n os) (hs : Reads w os ls) (hr' : RdO w A' n' os') (hs' : Reads w os' ls') :
    Calls Tryz.prog 86 #[.slice A n c, .slice A' n' c', .func (.func 87) #[] #[]] w (OptBool (decide (ls = ls')) w) := by
  have hl : ls.length = n := by rw [← hs.len, hr.len]
  have hl' : ls'.length = n' := by rw [← hs'.len, hr'.len]
  by_cases hnn : n = n'
  · subst hnn
    have Hl := Lib.hid hl
    have Hl' := Lib.hid hl'
    have Hr := Lib.hid hr
    have Hr' := Lib.hid hr'
    have Hs := Lib.hid hs
    have Hs' := Lib.hid hs'
    clear hl hl' hr hr' hs hs'
    go_enter Tryz.func86, Tryz.ntmps86
    go_wp2_with fail
    go_loopg [17] n (fun gk i wr => ∃ j : Nat, Hid (gk + j = n) ∧ j ≤ n ∧ i = .int .i64 (j : Int) ∧ Hid (ls.take j = ls'.take j) ∧ Below w.heap.size w wr)
    case atStart => exact ⟨0, rfl, Nat.zero_le _, rfl, rfl, Below.refl _ _⟩
    case round =>
      obtain ⟨j, hgk, hj, rfl, heq, hb⟩ := hrel
      by_cases hjn : j < n
      · obtain ⟨b1, p1, hrun1, hb1, hk1, hd1⟩ := (Hr.out.below hb).index (c := c) hjn
        obtain ⟨b2, p2, hrun2, hb2, hk2, hd2⟩ := (Hr'.out.below hb).index (c := c') hjn
        have o1 := (Hs.out.below hb).get j (by rw [Hr.out.len]; exact hjn)
        have o2 := (Hs'.out.below hb).get j (by rw [Hr'.out.len]; exact hjn)
        obtain ⟨v1, ev1⟩ : ∃ v, os.getD j .none = v := ⟨_, rfl⟩
        obtain ⟨v2, ev2⟩ : ∃ v, os'.getD j .none = v := ⟨_, rfl⟩
        obtain ⟨l1, el1⟩ : ∃ v, ls.getD j (0, []) = v := ⟨_, rfl⟩
        obtain ⟨l2, el2⟩ : ∃ v, ls'.getD j (0, []) = v := ⟨_, rfl⟩
        rw [ev1] at hk1 hd1 o1
        rw [ev2] at hk2 hd2 o2
        rw [el1] at o1
        rw [el2] at o2
        obtain ⟨kd1, A1, n1, c1⟩ := v1
        obtain ⟨kd2, A2, n2, c2⟩ := v2
        obtain ⟨t1, d1⟩ := l1
        obtain ⟨t2, d2⟩ := l2
        obtain ⟨rfl, -, -, -, r1⟩ := o1
        obtain ⟨rfl, -, -, -, r2⟩ := o2
        simp only at hk1 hd1 hk2 hd2 r1 r2
        have El1 := Lib.hid el1
        have El2 := Lib.hid el2
        have hbx : Below wr.heap.size wr ((wr.alloc (.cells #[.int .u8 kd1, .slice A1 n1 c1] 142)).alloc (.cells #[.int .u8 kd2, .slice A2 n2 c2] 142)) := ((Below.refl _ _).alloc (Nat.le_refl _) _).alloc (by simp) _
        have Hsm := Lib.hid (same1_any kd1 kd2 A1 A2 n1 c1 n2 c2 d1 d2 _ (r1.below hbx) (r2.below hbx))
        have Hbx := Lib.hid (hb.trans (hbx.mono hb.size))
        have hk2' := (((Below.refl wr.heap.size wr).alloc (Nat.le_refl _) (.cells #[.int .u8 kd1, .slice A1 n1 c1] 142)).cell (p := ⟨b2, p2, none⟩) hb2).trans hk2
        have hd2' := (((Below.refl wr.heap.size wr).alloc (Nat.le_refl _) (.cells #[.int .u8 kd1, .slice A1 n1 c1] 142)).cell (p := ⟨b2, p2 + 1, none⟩) hb2).trans hd2
        clear ev1 ev2 el1 el2 r1 r2 hbx hk2 hd2
        go_wp2_with fail
        refine Hsm.out.mono ?_
        rintro e w2 ⟨rfl, hb3⟩
        have Hb3 := Lib.hid (Hbx.out.trans (hb3.mono Hbx.out.size))
        clear hb3
        by_cases hee : (kd1, d1) = (kd2, d2)
        · have Heq := Lib.hid (show ls.take (j + 1) = ls'.take (j + 1) by rw [take_snoc_ ls j (0, []) (by rw [Hl.out]; exact hjn), take_snoc_ ls' j (0, []) (by rw [Hl'.out]; exact hjn), heq.out, El1.out, El2.out, hee])
          rw [decide_eq_true hee]
          clear hee
          go_wp2_with fail
          go_roundg (gk - 1)
          case measure => have := hgk.out; omega
          case rel => exact ⟨j + 1, by have := hgk.out; show gk - 1 + (j + 1) = _; omega, by omega, by go_num, Heq, Hb3.out⟩
        · have Hfin := Lib.hid (show decide (ls = ls') = false by
            have : ls ≠ ls' := getD_ne (j := j) (d := (0, [])) (by rw [El1.out, El2.out]; exact hee)
            simpa using this)
          rw [decide_eq_false hee]
          clear hee
          go_wp2_with fail
          go_ret
          exact ⟨by rw [Hfin.out]; rfl, Hb3.out⟩
      · obtain rfl : n = j := by omega
        have Hfin := Lib.hid (show decide (ls = ls') = true by
          have h := heq.out
          rw [List.take_of_length_le (by rw [Hl.out]; omega), List.take_of_length_le (by rw [Hl'.out]; omega)] at h
          simpa using h)
        go_wp2_with fail
        go_ret
        exact ⟨by rw [Hfin.out]; rfl, hb⟩
  · have Hfin := Lib.hid (show decide (ls = ls') = false by
      have : ls ≠ ls' := fun e => hnn (by rw [← hl, ← hl', e])
      simpa using this)
    have h1 : ((n : Int) == (n' : Int)) = false := by simp; omega
    have h2 : ((n : Int) != (n' : Int)) = true := by simp; omega
    clear hr hs hr' hs' hl hl' hnn
    go_enter Tryz.func86, Tryz.ntmps86
    go_wp2_with fail
    go_ret
    exact ⟨by rw [Hfin.out]; rfl, Below.refl _ _⟩

theorem same_any (A A' : Option Addr) (n c n' c' : Nat) (os os' : List OptV) (ls ls' : List (Int × List Int)) (w : World) (hn : n ≤ 2000000) (hr : RdO w A n os) (hs : Reads w os ls) (hr' : RdO w A' n' os') (hs' : Reads w os' ls') :
    Calls Tryz.prog 54 #[.slice A n c, .slice A' n' c'] w (OptBool (decide (ls = ls')) w) := by
  have He := Lib.hid (equalf_any A A' n c n' c' os os' ls ls' w hn hr hs hr' hs')
  clear hr hs hr' hs'
  go_enter Tryz.func54, Tryz.ntmps54
  go_wp2_with fail
  refine He.out.mono ?_
  rintro e w2 ⟨rfl, hb⟩
  have Hb := Lib.hid hb
  clear hb
  go_wp2_with fail
  go_ret
  exact ⟨rfl, Hb.out⟩

end Go.Proofs.YtheknmihnkennaaGreat

/-
  The contracts of package tcp's options, May, Length, Same.
-/
namespace Go.Proofs.YtheknmihnkennaaGreat
set_option maxRecDepth 10000
open Go.RowKit
set_option linter.unusedSimpArgs false

/-- What options tells of a segment. -/
def OptionsIs (s : Seg) (w : World) (e : Ending) (w' : World) : Prop :=
  if s.os.any badB = true then e = .returned (.tuple #[.slice Option.none 0 0, .int .i64 1]) ∧ Below w.heap.size w w'
  else if 40 < (bytesO s.os).length then e = .returned (.tuple #[.slice Option.none 0 0, .int .i64 3]) ∧ Below w.heap.size w w'
  else if 1480 < lenB s then e = .returned (.tuple #[.slice Option.none 0 0, .int .i64 3]) ∧ Below w.heap.size w w'
  else ∃ A c, e = .returned (.tuple #[.slice A (optB s).length c, .int .i64 0]) ∧ OwnB w' w.heap.size A (optB s).length c (optB s) ∧ Below w.heap.size w w'

theorem options_any (s : Seg) (AO : Option Addr) (nO cO : Nat) (oss : List OptV) (AD : Option Addr) (nD cD : Nat) (w : World) (hn : nO ≤ 140737488355328) (hd : nD ≤ 140737488355328) (h : SegRd w s AO nO cO oss AD nD cD) :
    Calls Tryz.prog 89 #[.agg #[.int .u16 s.sp, .int .u16 s.dp, .int .u32 s.sq, .int .u32 s.ak, .int .u8 s.fl, .int .u16 s.wn, .int .u16 s.ug, .slice AO nO cO, .slice AD nD cD]] w (OptionsIs s w) := by
  obtain ⟨sp, dp, sq, ak, fl, wn, ug, os, d⟩ := s
  simp only
  have hba : Below w.heap.size w (w.alloc (.cells #[.int .u16 sp, .int .u16 dp, .int .u32 sq, .int .u32 ak, .int .u8 fl, .int .u16 wn, .int .u16 ug, .slice AO nO cO, .slice AD nD cD] 29)) := (Below.refl _ _).alloc (Nat.le_refl _) _
  have Hput := Lib.hid (put_any AO nO cO oss os _ hn (h.below hba).o (h.below hba).os)
  have hblk := heap_alloc_new w (.cells #[.int .u16 sp, .int .u16 dp, .int .u32 sq, .int .u32 ak, .int .u8 fl, .int .u16 wn, .int .u16 ug, .slice AO nO cO, .slice AD nD cD] 29)
  obtain ⟨z, hz⟩ : ∃ z, w.heap.size = z := ⟨_, rfl⟩
  rw [hz] at hblk
  have Hblk := Lib.hid hblk
  have Hba := Lib.hid hba
  have Hdl := Lib.hid h.d.len
  simp only at Hdl
  clear h hba hblk
  go_enter Tryz.func89, Tryz.ntmps89
  go_wp2_with fail
  refine Hput.out.mono ?_
  intro e w1 hp
  unfold PutO at hp
  by_cases hany : os.any badB = true
  · rw [if_pos hany] at hp
    obtain ⟨rfl, hb1⟩ := hp
    have Hb1 := Lib.hid (below_trans Hba.out hb1)
    have Hany := Lib.hid hany
    clear hany hb1
    go_wp2_with fail
    go_ret2
    unfold OptionsIs
    rw [if_pos Hany.out]
    exact ⟨rfl, Hb1.out⟩
  · rw [if_neg hany] at hp
    have Hany := Lib.hid hany
    by_cases hlong : 40 < (bytesO os).length
    · rw [if_pos hlong] at hp
      obtain ⟨rfl, hb1⟩ := hp
      have Hb1 := Lib.hid (below_trans Hba.out hb1)
      have Hlong := Lib.hid hlong
      clear hlong hb1 hany
      go_wp2_with fail
      go_ret2
      unfold OptionsIs
      rw [if_neg Hany.out, if_pos Hlong.out]
      exact ⟨rfl, Hb1.out⟩
    · rw [if_neg hlong] at hp
      have Hlong := Lib.hid hlong
      obtain ⟨Y, eY⟩ : ∃ Y, padTo4 (bytesO os) = Y := ⟨_, rfl⟩
      obtain ⟨YN, eYN⟩ : ∃ YN, Y.length = YN := ⟨_, rfl⟩
      have hpl := padTo4_len (bytesO os)
      rw [eY, eYN] at hpl
      rw [eY, eYN] at hp
      obtain ⟨A1, c1, rfl, ho1, hb1⟩ := hp
      have hYN : YN ≤ 40 ∧ YN % 4 = 0 := by omega
      have Hb1 := Lib.hid (below_trans Hba.out hb1)
      have hc8 := blk_cell (blk_on Hblk.out hb1) 8
      have Ho1 := Lib.hid ho1
      have EY := Lib.hid eY
      have EYN := Lib.hid eYN
      have hw1 : IntKind.i64.wrap (20 + (YN : Int)) = 20 + (YN : Int) := IntWalk.i64_in _ (by omega)
      have hw2 : IntKind.i64.wrap (20 + (YN : Int) + (nD : Int)) = 20 + (YN : Int) + (nD : Int) := IntWalk.i64_in _ (by omega)
      clear hb1 ho1 eY eYN hany hlong hpl
      by_cases hmost : 1480 < 20 + YN + nD
      · have hm : 1480 < 20 + (YN : Int) + (nD : Int) := by omega
        go_wp2_with fail
        go_ret2
        unfold OptionsIs
        rw [if_neg Hany.out, if_neg Hlong.out, if_pos (by unfold lenB optB; simp only [EY.out, EYN.out, Hdl.out]; omega)]
        exact ⟨rfl, Hb1.out⟩
      · have hm : 20 + (YN : Int) + (nD : Int) ≤ 1480 := by omega
        go_wp2_with fail
        go_ret2
        unfold OptionsIs
        rw [if_neg Hany.out, if_neg Hlong.out, if_neg (by unfold lenB optB; simp only [EY.out, EYN.out, Hdl.out]; omega)]
        refine ⟨A1, c1, ?_, ?_, Hb1.out⟩
        · unfold optB; simp only [EY.out, EYN.out]; rfl
        · unfold optB; simp only [EY.out, EYN.out]; exact Ho1.out.mono Hba.out.size

/-- Whether a segment may be. -/
def mayT (s : Seg) : Bool := !s.os.any badB && decide ((bytesO s.os).length ≤ 40) && decide (lenB s ≤ 1480)
/-- options, told by what may be: the error, or the options' bytes. -/
def errS (s : Seg) : Int := if s.os.any badB = true then 1 else if 40 < (bytesO s.os).length then 3 else if 1480 < lenB s then 3 else 0
theorem errS_zero (s : Seg) : errS s = 0 ↔ mayT s = true := by
  unfold errS mayT
  by_cases h1 : s.os.any badB = true
  · simp [h1]
  · by_cases h2 : 40 < (bytesO s.os).length
    · simp [h1, h2]; intro h; omega
    · have h2' : (bytesO s.os).length ≤ 40 := by omega
      have h1' : s.os.any badB = false := by simpa using h1
      by_cases h3 : 1480 < lenB s
      · simp [h1', h2, h2', h3]
      · have h3' : lenB s ≤ 1480 := by omega
        simp [h1', h2, h2', h3, h3']
theorem options_bad {s : Seg} {w w' : World} {e : Ending} (h : OptionsIs s w e w') (h0 : errS s ≠ 0) : e = .returned (.tuple #[.slice Option.none 0 0, .int .i64 (errS s)]) ∧ Below w.heap.size w w' := by
  unfold OptionsIs at h
  unfold errS at h0 ⊢
  by_cases h1 : s.os.any badB = true
  · rw [if_pos h1] at h ⊢; exact h
  · rw [if_neg h1] at h h0 ⊢
    by_cases h2 : 40 < (bytesO s.os).length
    · rw [if_pos h2] at h ⊢; exact h
    · rw [if_neg h2] at h h0 ⊢
      by_cases h3 : 1480 < lenB s
      · rw [if_pos h3] at h ⊢; exact h
      · rw [if_neg h3] at h0; exact absurd rfl h0
theorem options_good {s : Seg} {w w' : World} {e : Ending} (h : OptionsIs s w e w') (h0 : errS s = 0) : ∃ A c, e = .returned (.tuple #[.slice A (optB s).length c, .int .i64 0]) ∧ OwnB w' w.heap.size A (optB s).length c (optB s) ∧ Below w.heap.size w w' := by
  unfold OptionsIs at h
  unfold errS at h0
  by_cases h1 : s.os.any badB = true
  · rw [if_pos h1] at h0; omega
  · rw [if_neg h1] at h h0
    by_cases h2 : 40 < (bytesO s.os).length
    · rw [if_pos h2] at h0; omega
    · rw [if_neg h2] at h h0
      by_cases h3 : 1480 < lenB s
      · rw [if_pos h3] at h0; omega
      · rw [if_neg h3] at h; exact h

set_option maxHeartbeats 1000000 in
theorem same6_any (s t : Seg) (AO AO' : Option Addr) (nO cO nO' cO' : Nat) (oss oss' : List OptV) (AD AD' : Option Addr) (nD cD nD' cD' : Nat) (w : World) (hn : nO ≤ 2000000) (h : SegRd w s AO nO cO oss AD nD cD) (h' : SegRd w t AO' nO' cO' oss' AD' nD' cD') :
    Calls Tryz.prog 22 #[.agg #[.int .u16 s.sp, .int .u16 s.dp, .int .u32 s.sq, .int .u32 s.ak, .int .u8 s.fl, .int .u16 s.wn, .int .u16 s.ug, .slice AO nO cO, .slice AD nD cD], .agg #[.int .u16 t.sp, .int .u16 t.dp, .int .u32 t.sq, .int .u32 t.ak, .int .u8 t.fl, .int .u16 t.wn, .int .u16 t.ug, .slice AO' nO' cO', .slice AD' nD' cD']] w (OptBool (segSame s t) w) := by
  obtain ⟨sp, dp, sq, ak, fl, wn, ug, os, d⟩ := s
  obtain ⟨sp', dp', sq', ak', fl', wn', ug', os', d'⟩ := t
  have hb : Below w.heap.size w ((w.alloc (.cells #[.int .u16 sp, .int .u16 dp, .int .u32 sq, .int .u32 ak, .int .u8 fl, .int .u16 wn, .int .u16 ug, .slice AO nO cO, .slice AD nD cD] 29)).alloc (.cells #[.int .u16 sp', .int .u16 dp', .int .u32 sq', .int .u32 ak', .int .u8 fl', .int .u16 wn', .int .u16 ug', .slice AO' nO' cO', .slice AD' nD' cD'] 29)) := ((Below.refl _ _).alloc (Nat.le_refl _) _).alloc (by simp) _
  have Hs := Lib.hid (same_any AO AO' nO cO nO' cO' oss oss' os os' _ (by omega) (h.below hb).o (h.below hb).os (h'.below hb).o (h'.below hb).os)
  have hblk1 : ((w.alloc (.cells #[.int .u16 sp, .int .u16 dp, .int .u32 sq, .int .u32 ak, .int .u8 fl, .int .u16 wn, .int .u16 ug, .slice AO nO cO, .slice AD nD cD] 29)).alloc (.cells #[.int .u16 sp', .int .u16 dp', .int .u32 sq', .int .u32 ak', .int .u8 fl', .int .u16 wn', .int .u16 ug', .slice AO' nO' cO', .slice AD' nD' cD'] 29)).heap[w.heap.size]? = some (.cells #[.int .u16 sp, .int .u16 dp, .int .u32 sq, .int .u32 ak, .int .u8 fl, .int .u16 wn, .int .u16 ug, .slice AO nO cO, .slice AD nD cD] 29 (0, 0)) := by rw [Below.heap_alloc _ _ _ (by simp)]; exact heap_alloc_new w _
  have hblk2 : ((w.alloc (.cells #[.int .u16 sp, .int .u16 dp, .int .u32 sq, .int .u32 ak, .int .u8 fl, .int .u16 wn, .int .u16 ug, .slice AO nO cO, .slice AD nD cD] 29)).alloc (.cells #[.int .u16 sp', .int .u16 dp', .int .u32 sq', .int .u32 ak', .int .u8 fl', .int .u16 wn', .int .u16 ug', .slice AO' nO' cO', .slice AD' nD' cD'] 29)).heap[w.heap.size + 1]? = some (.cells #[.int .u16 sp', .int .u16 dp', .int .u32 sq', .int .u32 ak', .int .u8 fl', .int .u16 wn', .int .u16 ug', .slice AO' nO' cO', .slice AD' nD' cD'] 29 (0, 0)) := by
    have := heap_alloc_new (w.alloc (.cells #[.int .u16 sp, .int .u16 dp, .int .u32 sq, .int .u32 ak, .int .u8 fl, .int .u16 wn, .int .u16 ug, .slice AO nO cO, .slice AD nD cD] 29)) (.cells #[.int .u16 sp', .int .u16 dp', .int .u32 sq', .int .u32 ak', .int .u8 fl', .int .u16 wn', .int .u16 ug', .slice AO' nO' cO', .slice AD' nD' cD'] 29)
    simpa using this
  have Hk1 := Lib.hid hblk1
  have Hk2 := Lib.hid hblk2
  clear hblk1 hblk2
  have Hd := Lib.hid (h.below hb).d
  have Hd' := Lib.hid (h'.below hb).d
  have Hb := Lib.hid hb
  clear h h' hb
  simp only
  by_cases hx : sp = sp'
  · subst hx
    by_cases hx : dp = dp'
    · subst hx
      by_cases hx : sq = sq'
      · subst hx
        by_cases hx : ak = ak'
        · subst hx
          by_cases hx : fl = fl'
          · subst hx
            by_cases hx : wn = wn'
            · subst hx
              by_cases hx : ug = ug'
              · subst hx
                go_enter Tryz.func22, Tryz.ntmps22
                go_wp2_with fail
                refine Hs.out.mono ?_
                rintro e w2 ⟨rfl, hb2⟩
                have Hb2 := Lib.hid (Hb.out.trans (hb2.mono Hb.out.size))
                by_cases hx : os = os'
                · subst hx
                  rw [decide_eq_true rfl]
                  have c8 := blk_cell (blk_on Hk1.out hb2) 8
                  have c8' := blk_cell (blk_on Hk2.out hb2) 8
                  have He := Lib.hid (equal_any AD AD' nD nD' cD cD' d d' w2 (Hd.out.below hb2) (Hd'.out.below hb2))
                  have Hx := Lib.hid (show segSame ⟨sp, dp, sq, ak, fl, wn, ug, os, d⟩ ⟨sp, dp, sq, ak, fl, wn, ug, os, d'⟩ = decide (d = d') by unfold segSame; simp)
                  clear hb2
                  go_wp2_with fail
                  refine He.out.mono ?_
                  rintro e w3 ⟨rfl, rfl⟩
                  go_wp2_with fail
                  go_ret
                  exact ⟨by rw [Hx.out]; rfl, Hb2.out⟩
                · rw [decide_eq_false hx]
                  have Hx := Lib.hid (show segSame ⟨sp, dp, sq, ak, fl, wn, ug, os, d⟩ ⟨sp, dp, sq, ak, fl, wn, ug, os', d'⟩ = false by unfold segSame; simp [hx])
                  clear hx hb2
                  go_wp2_with fail
                  go_ret
                  exact ⟨by rw [Hx.out]; rfl, Hb2.out⟩
              · skip
                have hne : (ug == ug') = false := by simpa using hx
                have Hx := Lib.hid (show segSame ⟨sp, dp, sq, ak, fl, wn, ug, os, d⟩ ⟨sp, dp, sq, ak, fl, wn, ug', os', d'⟩ = false by unfold segSame; simp [hx])
                clear hx
                go_enter Tryz.func22, Tryz.ntmps22
                go_wp2_with fail
                go_ret
                exact ⟨by rw [Hx.out]; rfl, Hb.out⟩
            · skip
              have hne : (wn == wn') = false := by simpa using hx
              have Hx := Lib.hid (show segSame ⟨sp, dp, sq, ak, fl, wn, ug, os, d⟩ ⟨sp, dp, sq, ak, fl, wn', ug', os', d'⟩ = false by unfold segSame; simp [hx])
              clear hx
              go_enter Tryz.func22, Tryz.ntmps22
              go_wp2_with fail
              go_ret
              exact ⟨by rw [Hx.out]; rfl, Hb.out⟩
          · skip
            have hne : (fl == fl') = false := by simpa using hx
            have Hx := Lib.hid (show segSame ⟨sp, dp, sq, ak, fl, wn, ug, os, d⟩ ⟨sp, dp, sq, ak, fl', wn', ug', os', d'⟩ = false by unfold segSame; simp [hx])
            clear hx
            go_enter Tryz.func22, Tryz.ntmps22
            go_wp2_with fail
            go_ret
            exact ⟨by rw [Hx.out]; rfl, Hb.out⟩
        · skip
          have hne : (ak == ak') = false := by simpa using hx
          have Hx := Lib.hid (show segSame ⟨sp, dp, sq, ak, fl, wn, ug, os, d⟩ ⟨sp, dp, sq, ak', fl', wn', ug', os', d'⟩ = false by unfold segSame; simp [hx])
          clear hx
          go_enter Tryz.func22, Tryz.ntmps22
          go_wp2_with fail
          go_ret
          exact ⟨by rw [Hx.out]; rfl, Hb.out⟩
      · skip
        have hne : (sq == sq') = false := by simpa using hx
        have Hx := Lib.hid (show segSame ⟨sp, dp, sq, ak, fl, wn, ug, os, d⟩ ⟨sp, dp, sq', ak', fl', wn', ug', os', d'⟩ = false by unfold segSame; simp [hx])
        clear hx
        go_enter Tryz.func22, Tryz.ntmps22
        go_wp2_with fail
        go_ret
        exact ⟨by rw [Hx.out]; rfl, Hb.out⟩
    · skip
      have hne : (dp == dp') = false := by simpa using hx
      have Hx := Lib.hid (show segSame ⟨sp, dp, sq, ak, fl, wn, ug, os, d⟩ ⟨sp, dp', sq', ak', fl', wn', ug', os', d'⟩ = false by unfold segSame; simp [hx])
      clear hx
      go_enter Tryz.func22, Tryz.ntmps22
      go_wp2_with fail
      go_ret
      exact ⟨by rw [Hx.out]; rfl, Hb.out⟩
  · skip
    have hne : (sp == sp') = false := by simpa using hx
    have Hx := Lib.hid (show segSame ⟨sp, dp, sq, ak, fl, wn, ug, os, d⟩ ⟨sp', dp', sq', ak', fl', wn', ug', os', d'⟩ = false by unfold segSame; simp [hx])
    clear hx
    go_enter Tryz.func22, Tryz.ntmps22
    go_wp2_with fail
    go_ret
    exact ⟨by rw [Hx.out]; rfl, Hb.out⟩
end Go.Proofs.YtheknmihnkennaaGreat
