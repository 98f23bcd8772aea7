/-
  Texts laid together: OptsPut, OptSame, TcpAsk, IpPut.
-/
import Derived.Test.YtoegfgbalcholaaZD14
import Derived.Test.YtoegfgbalcholaaZD16
import Derived.Test.YtoegfgbalcholaaZD04
import Derived.Laws.BytesArg
import Derived.Laws.IdiomStrings
import Derived.Lib.SlBytesConst
import Derived.Test.YtoegfgbalcholaaZD03
import Derived.Test.YtoegfgbalcholaaZD05
import Derived.Test.YtoegfgbalcholaaZD06

/-
  The contract of package opts' Put: whether options may be, and their bytes.
-/
namespace Go.Proofs.Ytoegfgbalcholaa
set_option maxRecDepth 10000
open Go.RowKit

theorem may1_any (kd : Int) (A : Option Addr) (n c : Nat) (w : World) :
    Calls Try.prog 90 #[.agg #[.int .u8 kd, .slice A n c]] w (OptBool (decide (kd = 0 ∨ kd = 1 ∨ 38 < n)) w) := by
  have hb : Below w.heap.size w (w.alloc (.cells #[.int .u8 kd, .slice A n c] 133)) := (Below.refl _ _).alloc (Nat.le_refl _) _
  have Hb := Lib.hid hb
  clear hb
  by_cases h0 : kd = 0
  · subst h0
    go_enter Try.func90, Try.ntmps90
    go_wp2_with fail
    go_ret
    exact ⟨by simp, Hb.out⟩
  · have h0' : (kd == 0) = false := by simpa using h0
    by_cases h1 : kd = 1
    · subst h1
      go_enter Try.func90, Try.ntmps90
      go_wp2_with fail
      go_ret
      exact ⟨by simp, Hb.out⟩
    · have h1' : (kd == 1) = false := by simpa using h1
      have Hx := Lib.hid (show decide (kd = 0 ∨ kd = 1 ∨ 38 < n) = decide (38 < (n : Int)) by simp [h0, h1]; omega)
      clear h0 h1
      go_enter Try.func90, Try.ntmps90
      go_wp2_with fail
      go_ret
      exact ⟨by rw [Hx.out]; rfl, Hb.out⟩

theorem badB_eq {kd : Int} {d : List Int} {n : Nat} (h0 : 0 ≤ kd) (hn : d.length = n) : decide (kd = 0 ∨ kd = 1 ∨ 38 < n) = badB (kd, d) := by
  unfold badB
  simp only [hn]
  by_cases h : kd < 2 <;> by_cases h2 : 38 < n <;> simp [h, h2] <;> omega

/-- Where the first is, of which a function says so, or -1. -/
def IdxIs (x : Bool) (w : World) (e : Ending) (w' : World) : Prop := ∃ i : Int, e = .returned (.int .i64 i) ∧ decide (0 ≤ i) = x ∧ Below w.heap.size w w'
theorem indexf_any (A : Option Addr) (n c : Nat) (os : List OptV) (ls : List (Int × List Int)) (w : World) (hn : n ≤ 140737488355328) (hr : RdO w A n os) (hs : Reads w os ls) :
    Calls Try.prog 91 #[.slice A n c, .func (.func 90) #[] #[]] w (IdxIs (ls.any badB) w) := by
  have Hl := Lib.hid (show ls.length = n by rw [← hs.len, hr.len])
  have Hr := Lib.hid hr
  have Hs := Lib.hid hs
  clear hr hs
  go_enter Try.func91, Try.ntmps91
  go_wp2_with fail
  go_loopg [8] n (fun gk i wr => ∃ j : Nat, Hid (gk + j = n) ∧ j ≤ n ∧ i = .int .i64 (j : Int) ∧ Hid ((ls.take j).any badB = false) ∧ Below w.heap.size w wr)
  case atStart => exact ⟨0, rfl, Nat.zero_le _, rfl, Lib.hid (by simp), Below.refl _ _⟩
  case round =>
    obtain ⟨j, hgk, hj, rfl, hno, hb⟩ := hrel
    by_cases hjn : j < n
    · have hjn := hjn
      obtain ⟨b1, p1, hrun1, hb1, hk0, hd0⟩ := Hr.out.index (c := c) hjn
      have o1 := Hs.out.get j (by rw [Hr.out.len]; exact hjn)
      obtain ⟨v1, ev1⟩ : ∃ v, os.getD j .none = v := ⟨_, rfl⟩
      obtain ⟨l1, el1⟩ : ∃ v, ls.getD j (0, []) = v := ⟨_, rfl⟩
      rw [ev1] at hk0 hd0 o1
      rw [el1] at o1
      obtain ⟨kd1, A1, n1, c1⟩ := v1
      obtain ⟨t1, d1⟩ := l1
      obtain ⟨rfl, hkb, hnc, hcm, r1⟩ := o1
      simp only at hk0 hd0 hkb hnc hcm r1
      have hk1 := (hb.cell (p := ⟨b1, p1, none⟩) hb1).trans hk0
      have hd1 := (hb.cell (p := ⟨b1, p1 + 1, none⟩) hb1).trans hd0
      have El1 := Lib.hid el1
      have Hd1 := Lib.hid r1.len
      have Hr1 := Lib.hid r1
      clear ev1 el1 r1 hk0 hd0
      have Hm := Lib.hid (may1_any kd1 A1 n1 c1 wr)
      rw [badB_eq hkb.1 Hd1.out] at Hm
      go_wp2_with fail
      refine Hm.out.mono ?_
      rintro e w2 ⟨rfl, hb2⟩
      have Hb2 := Lib.hid (hb.trans (hb2.mono hb.size))
      clear hb2
      by_cases hbad : badB (kd1, d1) = true
      · have Hany := Lib.hid (any_take (ls := ls) (j := j) (by rw [Hl.out]; exact hjn) (by rw [El1.out]; exact hbad))
        go_wp2_with fail
        go_ret
        exact ⟨j, rfl, by rw [Hany.out]; simp, Hb2.out⟩
      · have hbad' : badB (kd1, d1) = false := by simpa using hbad
        have Hno := Lib.hid (show (ls.take (j + 1)).any badB = false by rw [take_snoc_ ls j (0, []) (by rw [Hl.out]; exact hjn), List.any_append, hno.out, El1.out]; simp [hbad'])
        clear hbad
        go_wp2_with fail
        go_roundg (gk - 1)
        case measure => have := hgk.out; omega
        case rel => exact ⟨j + 1, by have := hgk.out; show gk - 1 + (j + 1) = _; omega, by omega, by go_num, Hno, Hb2.out⟩
    · obtain rfl : j = n := by omega
      have Hno := Lib.hid (show ls.any badB = false by have h := hno.out; rwa [List.take_of_length_le (by rw [Hl.out]; omega)] at h)
      go_wp2_with fail
      go_ret
      exact ⟨-1, rfl, by rw [Hno.out]; rfl, hb⟩

theorem containsf_any (A : Option Addr) (n c : Nat) (os : List OptV) (ls : List (Int × List Int)) (w : World) (hn : n ≤ 140737488355328) (hr : RdO w A n os) (hs : Reads w os ls) :
    Calls Try.prog 89 #[.slice A n c, .func (.func 90) #[] #[]] w (OptBool (ls.any badB) w) := by
  have Hi := Lib.hid (indexf_any A n c os ls w hn hr hs)
  clear hr hs
  go_enter Try.func89, Try.ntmps89
  go_wp2_with fail
  refine Hi.out.mono ?_
  rintro e w2 ⟨i, rfl, hx, hb⟩
  have Hx := Lib.hid hx
  have Hb := Lib.hid hb
  clear hx hb
  go_wp2_with fail
  go_ret
  exact ⟨by rw [← Hx.out]; rfl, Hb.out⟩

theorem mayall_any (A : Option Addr) (n c : Nat) (os : List OptV) (ls : List (Int × List Int)) (w : World) (hn : n ≤ 140737488355328) (hr : RdO w A n os) (hs : Reads w os ls) :
    Calls Try.prog 88 #[.slice A n c] w (OptBool (!ls.any badB) w) := by
  have Hi := Lib.hid (containsf_any A n c os ls w hn hr hs)
  clear hr hs
  go_enter Try.func88, Try.ntmps88
  go_wp2_with fail
  refine Hi.out.mono ?_
  rintro e w2 ⟨rfl, hb⟩
  have Hb := Lib.hid hb
  clear hb
  go_wp2_with fail
  go_ret
  exact ⟨rfl, Hb.out⟩

theorem bytesO_two (ls : List (Int × List Int)) : 2 * ls.length ≤ (bytesO ls).length := by
  induction ls with
  | nil => simp
  | cons l ls ih => simp only [bytesO, List.flatMap_cons, List.length_append, List.length_cons, bytesOne, List.length_nil] at ih ⊢; omega
theorem put_any (A : Option Addr) (n c : Nat) (os : List OptV) (ls : List (Int × List Int)) (w : World) (hn : n ≤ 140737488355328) (hr : RdO w A n os) (hs : Reads w os ls) :
    Calls Try.prog 80 #[.slice A n c] w (PutO ls w) := by
  have Hm := Lib.hid (mayall_any A n c os ls w hn hr hs)
  have Hl := Lib.hid (show ls.length = n by rw [← hs.len, hr.len])
  have Hr := Lib.hid hr
  have Hs := Lib.hid hs
  clear hr hs
  go_enter Try.func80, Try.ntmps80
  go_wp2_with fail
  refine Hm.out.mono ?_
  rintro e w2 ⟨rfl, hb⟩
  by_cases hany : ls.any badB = true
  · have Hany := Lib.hid hany
    have hany2 : (!ls.any badB) = false := by rw [hany]; rfl
    rw [hany2]
    clear hany hany2
    go_wp2_with fail
    go_ret2
    unfold PutO
    rw [if_pos Hany.out]
    exact ⟨rfl, hb⟩
  · have hany' : ls.any badB = false := by simpa using hany
    have Hany := Lib.hid hany
    have hany2 : (!ls.any badB) = true := by rw [hany']; rfl
    have hall : ∀ j, j < n → (ls.getD j (0, [])).2.length ≤ 38 := by
      intro j hj
      rw [List.any_eq_false] at hany'
      have hlt : j < ls.length := by rw [Hl.out]; exact hj
      have hm : ls.getD j (0, []) ∈ ls := by simp only [List.getD, List.getElem?_eq_getElem hlt, Option.getD_some]; exact List.getElem_mem _
      exact (badB_false (by simpa using hany' _ hm)).2
    have Hall := Lib.hid hall
    have Hmem := Lib.hid (show ∀ l ∈ ls, l.2.length ≤ 38 from fun l hl => (badB_false (by rw [List.any_eq_false] at hany'; simpa using hany' l hl)).2)
    rw [hany2]
    clear hany hany' hany2 hall
    go_wp2_with fail
    go_loopg [4, 15] n (fun gk lo i wr => ∃ (j m2 : Nat), Hid (gk + j = n) ∧ j ≤ n ∧ m2 ≤ 40 * j ∧ lo = .int .i64 (m2 : Int) ∧ i = .int .i64 (j : Int) ∧ Hid ((bytesO (ls.take j)).length = m2) ∧ Below w.heap.size w wr)
    case atStart => exact ⟨0, 0, rfl, Nat.zero_le _, Nat.le_refl _, rfl, rfl, Lib.hid (by simp [bytesO]), hb⟩
    case round =>
      clear hb
      obtain ⟨j, m2, hgk, hj, hmj, rfl, rfl, hm2, hb⟩ := hrel
      by_cases hjn : j < n
      · have hjn := hjn
        obtain ⟨b1, p1, hrun1, hb1, hk0, hd0⟩ := Hr.out.index (c := c) hjn
        have o1 := Hs.out.get j (by rw [Hr.out.len]; exact hjn)
        obtain ⟨v1, ev1⟩ : ∃ v, os.getD j .none = v := ⟨_, rfl⟩
        obtain ⟨l1, el1⟩ : ∃ v, ls.getD j (0, []) = v := ⟨_, rfl⟩
        rw [ev1] at hk0 hd0 o1
        rw [el1] at o1
        obtain ⟨kd1, A1, n1, c1⟩ := v1
        obtain ⟨t1, d1⟩ := l1
        obtain ⟨rfl, hkb, hnc, hcm, r1⟩ := o1
        simp only at hk0 hd0 hkb hnc hcm r1
        have hk1 := (hb.cell (p := ⟨b1, p1, none⟩) hb1).trans hk0
        have hd1 := (hb.cell (p := ⟨b1, p1 + 1, none⟩) hb1).trans hd0
        have El1 := Lib.hid el1
        have Hd1 := Lib.hid r1.len
        have Hr1 := Lib.hid r1
        clear ev1 el1 r1 hk0 hd0
        have h38 : n1 ≤ 38 := by have h := Hall.out j hjn; rw [El1.out] at h; have := Hd1.out; simp only at h; omega
        have hw1 : IntKind.i64.wrap (2 + (n1 : Int)) = 2 + (n1 : Int) := IntWalk.i64_in _ (by omega)
        have hw2 : IntKind.i64.wrap ((m2 : Int) + (2 + (n1 : Int))) = (m2 : Int) + (2 + (n1 : Int)) := IntWalk.i64_in _ (by omega)
        have Hsn := Lib.hid (show (bytesO (ls.take (j + 1))).length = m2 + (2 + n1) by
          have := Hd1.out
          rw [take_snoc_ ls j (0, []) (by rw [Hl.out]; exact hjn), bytesO_snoc, List.length_append, hm2.out, El1.out]; simp [bytesOne]; omega)
        go_wp2_with fail
        go_roundg (gk - 1)
        case measure => have := hgk.out; omega
        case rel => exact ⟨j + 1, m2 + (2 + n1), by have := hgk.out; show gk - 1 + (j + 1) = _; omega, by omega, by omega, by go_num, by go_num, Hsn, hb.alloc hb.size _⟩
      · obtain rfl : n = j := by omega
        have hlen2 : (bytesO ls).length = m2 := by have h := hm2.out; rwa [List.take_of_length_le (by rw [Hl.out]; omega)] at h
        have Hlen2 := Lib.hid hlen2
        clear hlen2 hm2
        by_cases hlong : 40 < m2
        · have hli : 40 < (m2 : Int) := by omega
          go_wp2_with fail
          go_ret2
          unfold PutO
          rw [if_neg Hany.out, if_pos (by rw [Hlen2.out]; exact hlong)]
          exact ⟨rfl, hb⟩
        · have hli : (m2 : Int) ≤ 40 := by omega
          have hn20 : n ≤ 20 := by have h := bytesO_two ls; rw [Hlen2.out, Hl.out] at h; omega
          clear hn
          go_wp2_with fail
          go_loopg [7, 30] n (fun gk b i wr => ∃ (j m3 : Nat) (A2 : Option Addr) (c2 : Nat), Hid (gk + j = n) ∧ j ≤ n ∧ m3 ≤ 40 * j ∧ b = .slice A2 m3 c2 ∧ i = .int .i64 (j : Int) ∧ Hid (OwnB wr w.heap.size A2 m3 c2 (bytesO (ls.take j))) ∧ Below w.heap.size w wr)
          case atStart => exact ⟨0, 0, none, 0, rfl, Nat.zero_le _, Nat.le_refl _, rfl, rfl, Lib.hid (by simpa [bytesO] using OwnB.nil wr w.heap.size), hb⟩
          case round =>
            clear hb hgk
            obtain ⟨j, m3, A2, c2, hgk, hj, hmj3, rfl, rfl, hown, hb⟩ := hrel
            by_cases hjn : j < n
            · have hjn := hjn
              obtain ⟨b1, p1, hrun1, hb1, hk0, hd0⟩ := Hr.out.index (c := c) hjn
              have o1 := Hs.out.get j (by rw [Hr.out.len]; exact hjn)
              obtain ⟨v1, ev1⟩ : ∃ v, os.getD j .none = v := ⟨_, rfl⟩
              obtain ⟨l1, el1⟩ : ∃ v, ls.getD j (0, []) = v := ⟨_, rfl⟩
              rw [ev1] at hk0 hd0 o1
              rw [el1] at o1
              obtain ⟨kd1, A1, n1, c1⟩ := v1
              obtain ⟨t1, d1⟩ := l1
              obtain ⟨rfl, hkb, hnc, hcm, r1⟩ := o1
              simp only at hk0 hd0 hkb hnc hcm r1
              have hk1 := (hb.cell (p := ⟨b1, p1, none⟩) hb1).trans hk0
              have hd1 := (hb.cell (p := ⟨b1, p1 + 1, none⟩) hb1).trans hd0
              have El1 := Lib.hid el1
              have Hd1 := Lib.hid r1.len
              have Hr1 := Lib.hid r1
              clear ev1 el1 r1 hk0 hd0
              have h38 : n1 ≤ 38 := by have h := Hall.out j hjn; rw [El1.out] at h; have := Hd1.out; simp only at h; omega
              have hw8 : IntKind.u8.wrap (2 + (n1 : Int)) = 2 + (n1 : Int) := by simp [IntKind.wrap, IntKind.bits, IntKind.signed]; omega
              have hw1 : IntKind.i64.wrap (2 + (n1 : Int)) = 2 + (n1 : Int) := IntWalk.i64_in _ (by omega)
              have Hbo := Lib.hid (show ∀ x ∈ bytesO (ls.take j), 0 ≤ x ∧ x < 256 from bytesO_bytes (fun l hl => Hs.out.byte l (List.mem_of_mem_take hl)) (fun l hl => Hmem.out l (List.mem_of_mem_take hl)))
              obtain ⟨g1, eg1⟩ : ∃ g1, wr.heap.size = g1 := ⟨_, rfl⟩
              have hblk := heap_alloc_new wr (.cells #[.int .u8 kd1, .slice A1 n1 c1] 133)
              rw [eg1] at hblk
              have hba : Below wr.heap.size wr (wr.alloc (.cells #[.int .u8 kd1, .slice A1 n1 c1] 133)) := (Below.refl _ _).alloc (Nat.le_refl _) _
              have Hu := Lib.hid (u8_lays A2 m3 c2 _ kd1 (wr.alloc (.cells #[.int .u8 kd1, .slice A1 n1 c1] 133)) hkb ⟨hown.out.cap, hown.out.capMax⟩ (by omega) ((hown.out.rd Hbo.out).below hba))
              have Hblk := Lib.hid hblk
              have Hba := Lib.hid (hb.trans (hba.mono hb.size))
              have hg1 : w.heap.size ≤ g1 := by have := hb.size; omega
              clear hblk hba
              go_wp2_with fail
              refine Hu.out.mono ?_
              rintro e w3 ⟨A3, c3, rfl, h31, h32, hown3, hb3⟩
              have hblk3 := blk_on Hblk.out hb3
              have Hbo3 := Lib.hid (show ∀ x ∈ bytesO (ls.take j) ++ [kd1], 0 ≤ x ∧ x < 256 from bytes_app_ Hbo.out (by simpa using hkb))
              have Hu3 := Lib.hid (u8_lays A3 (m3 + 1) c3 _ (2 + (n1 : Int)) w3 (by omega) ⟨h31, h32⟩ (by omega) (hown3.rd Hbo3.out))
              have c30 := blk_cell hblk3 0
              have c31 := blk_cell hblk3 1
              have Hblk3 := Lib.hid hblk3
              have Hb3 := Lib.hid (Hba.out.trans (hb3.mono Hba.out.size))
              clear hblk3 hown3 hb3
              go_wp2_with fail
              refine Hu3.out.mono ?_
              rintro e w4 ⟨A4, c4, rfl, h41, h42, hown4, hb4⟩
              have hblk4 := blk_on Hblk3.out hb4
              have c40 := blk_cell hblk4 0
              have c41 := blk_cell hblk4 1
              have Hb4 := Lib.hid (Hb3.out.trans (hb4.mono Hb3.out.size))
              have Hown4 := Lib.hid (hown4.mono Hb3.out.size)
              have Hr4 := Lib.hid (Hr1.out.below Hb4.out)
              clear hblk4 hown4 hb4 c30 c31
              go_wp2_with (refine wpList_app rfl (.tmp 45) (.tmp 47) rfl w.heap.size A4 A1 (m3 + 1 + 1) c4 n1 c1 _ d1 rfl rfl Hown4.out Hr4.out (by omega) Hb4.out.size ?_; intro A5 c5 w5 hown5 _ hb5 _)
              go_roundg (gk - 1)
              case measure => have := hgk.out; omega
              case rel => exact ⟨j + 1, m3 + 1 + 1 + n1, A5, c5, by have := hgk.out; show gk - 1 + (j + 1) = _; omega, by omega, by omega, rfl, by go_num, Lib.hid (by
                rw [take_snoc_ ls j (0, []) (by rw [Hl.out]; exact hjn), bytesO_snoc, El1.out, show bytesOne (kd1, d1) = [kd1] ++ [2 + (n1 : Int)] ++ d1 by unfold bytesOne; rw [Hd1.out]; rfl, ← List.append_assoc, ← List.append_assoc]; exact hown5), Hb4.out.trans hb5⟩
            · obtain rfl : n = j := by omega
              have ho := hown.out
              rw [List.take_of_length_le (by rw [Hl.out]; omega)] at ho
              have hm3 : m3 = m2 := by rw [← ho.len, Hlen2.out]
              subst hm3
              obtain ⟨B0, eB⟩ : ∃ B0, bytesO ls = B0 := ⟨_, rfl⟩
              rw [eB] at ho Hlen2
              have HB0 := Lib.hid (show ∀ x ∈ B0, 0 ≤ x ∧ x < 256 from by rw [← eB]; exact bytesO_bytes (fun l hl => Hs.out.byte l hl) Hmem.out)
              have EB := Lib.hid eB
              have Ho := Lib.hid ho
              clear ho eB hown
              obtain ⟨P, eP⟩ : ∃ P, (4 - m3 % 4) % 4 = P := ⟨_, rfl⟩
              have EP := Lib.hid eP
              have hP : P < 4 := by omega
              clear eP
              go_wp2_with fail
              go_loopg [7] P (fun gk b wr => ∃ (t : Nat) (A3 : Option Addr) (c3 : Nat), Hid (gk + t = P) ∧ t ≤ P ∧ b = .slice A3 (m3 + t) c3 ∧ Hid (OwnB wr w.heap.size A3 (m3 + t) c3 (B0 ++ List.replicate t 0)) ∧ Below w.heap.size w wr)
              case atStart => exact ⟨0, A2, c2, rfl, Nat.zero_le _, rfl, Lib.hid (by simpa using Ho.out), hb⟩
              case round =>
                clear hb hgk
                obtain ⟨t, A3, c3, hgt, ht, rfl, hown3, hb3⟩ := hrel
                have hp := EP.out
                by_cases htP : t < P
                · have hmod : ((m3 + t : Nat) : Int) % 4 ≠ 0 := by omega
                  have hmod2 : (((m3 + t : Nat) : Int) % 4 == 0) = false := by simpa using hmod
                  have hmod3 : (((m3 + t : Nat) : Int) % 4 != 0) = true := by simpa using hmod
                  have Hu := Lib.hid (u8_lays A3 (m3 + t) c3 _ 0 wr (by omega) ⟨hown3.out.cap, hown3.out.capMax⟩ (by omega) (hown3.out.rd (bytes_app_ HB0.out (fun x hx => by rw [List.eq_of_mem_replicate hx]; omega))))
                  clear hmod hp
                  go_wp2_with fail
                  refine Hu.out.mono ?_
                  rintro e w4 ⟨A4, c4, rfl, h41, h42, hown4, hb4⟩
                  have Hb4 := Lib.hid (hb3.trans (hb4.mono hb3.size))
                  have Hown4 := Lib.hid (hown4.mono hb3.size)
                  clear hown4 hb4
                  go_wp2_with fail
                  go_roundg (gk - 1)
                  case measure => have := hgt.out; omega
                  case rel => exact ⟨t + 1, A4, c4, by have := hgt.out; show gk - 1 + (t + 1) = _; omega, by omega, rfl, Lib.hid (by rw [List.replicate_succ', ← List.append_assoc]; exact Hown4.out), Hb4.out⟩
                · obtain rfl : t = P := by omega
                  have hmod : ((m3 + t : Nat) : Int) % 4 = 0 := by omega
                  have hmod2 : (((m3 + t : Nat) : Int) % 4 == 0) = true := by simpa using hmod
                  have hmod3 : (((m3 + t : Nat) : Int) % 4 != 0) = false := by simpa using hmod
                  clear hmod hp
                  go_wp2_with fail
                  go_ret2
                  unfold PutO
                  rw [if_neg Hany.out, EB.out, if_neg (by rw [Hlen2.out]; exact hlong)]
                  have e : padTo4 B0 = B0 ++ List.replicate t 0 := by unfold padTo4; rw [Hlen2.out, EP.out]
                  have el : (padTo4 B0).length = m3 + t := by rw [e, List.length_append, Hlen2.out, List.length_replicate]
                  rw [el, e]
                  exact ⟨A3, c3, rfl, hown3.out, hb3⟩
end Go.Proofs.Ytoegfgbalcholaa

/-
  The contracts of package opts' Same and Without, and of bytes.Equal.
-/
namespace Go.Proofs.Ytoegfgbalcholaa
set_option maxRecDepth 10000
open Go.RowKit

end Go.Proofs.Ytoegfgbalcholaa

/-
  The contracts of package tcp's options, May, Length, Same.
-/
namespace Go.Proofs.Ytoegfgbalcholaa
set_option maxRecDepth 10000
open Go.RowKit
set_option linter.unusedSimpArgs false

/-- What options tells of a segment. -/
def OptionsIs (s : Seg) (w : World) (e : Ending) (w' : World) : Prop :=
  if s.os.any badB = true then e = .returned (.tuple #[.slice Option.none 0 0, .int .i64 1]) ∧ Below w.heap.size w w'
  else if 40 < (bytesO s.os).length then e = .returned (.tuple #[.slice Option.none 0 0, .int .i64 3]) ∧ Below w.heap.size w w'
  else if 1480 < lenB s then e = .returned (.tuple #[.slice Option.none 0 0, .int .i64 3]) ∧ Below w.heap.size w w'
  else ∃ A c, e = .returned (.tuple #[.slice A (optB s).length c, .int .i64 0]) ∧ OwnB w' w.heap.size A (optB s).length c (optB s) ∧ Below w.heap.size w w'

theorem options_any (s : Seg) (AO : Option Addr) (nO cO : Nat) (oss : List OptV) (AD : Option Addr) (nD cD : Nat) (w : World) (hn : nO ≤ 140737488355328) (hd : nD ≤ 140737488355328) (h : SegRd w s AO nO cO oss AD nD cD) :
    Calls Try.prog 61 #[.agg #[.int .u16 s.sp, .int .u16 s.dp, .int .u32 s.sq, .int .u32 s.ak, .int .u8 s.fl, .int .u16 s.wn, .int .u16 s.ug, .slice AO nO cO, .slice AD nD cD]] w (OptionsIs s w) := by
  obtain ⟨sp, dp, sq, ak, fl, wn, ug, os, d⟩ := s
  simp only
  have hba : Below w.heap.size w (w.alloc (.cells #[.int .u16 sp, .int .u16 dp, .int .u32 sq, .int .u32 ak, .int .u8 fl, .int .u16 wn, .int .u16 ug, .slice AO nO cO, .slice AD nD cD] 46)) := (Below.refl _ _).alloc (Nat.le_refl _) _
  have Hput := Lib.hid (put_any AO nO cO oss os _ hn (h.below hba).o (h.below hba).os)
  have hblk := heap_alloc_new w (.cells #[.int .u16 sp, .int .u16 dp, .int .u32 sq, .int .u32 ak, .int .u8 fl, .int .u16 wn, .int .u16 ug, .slice AO nO cO, .slice AD nD cD] 46)
  obtain ⟨z, hz⟩ : ∃ z, w.heap.size = z := ⟨_, rfl⟩
  rw [hz] at hblk
  have Hblk := Lib.hid hblk
  have Hba := Lib.hid hba
  have Hdl := Lib.hid h.d.len
  simp only at Hdl
  clear h hba hblk
  go_enter Try.func61, Try.ntmps61
  go_wp2_with fail
  refine Hput.out.mono ?_
  intro e w1 hp
  unfold PutO at hp
  by_cases hany : os.any badB = true
  · rw [if_pos hany] at hp
    obtain ⟨rfl, hb1⟩ := hp
    have Hb1 := Lib.hid (below_trans Hba.out hb1)
    have Hany := Lib.hid hany
    clear hany hb1
    go_wp2_with fail
    go_ret2
    unfold OptionsIs
    rw [if_pos Hany.out]
    exact ⟨rfl, Hb1.out⟩
  · rw [if_neg hany] at hp
    have Hany := Lib.hid hany
    by_cases hlong : 40 < (bytesO os).length
    · rw [if_pos hlong] at hp
      obtain ⟨rfl, hb1⟩ := hp
      have Hb1 := Lib.hid (below_trans Hba.out hb1)
      have Hlong := Lib.hid hlong
      clear hlong hb1 hany
      go_wp2_with fail
      go_ret2
      unfold OptionsIs
      rw [if_neg Hany.out, if_pos Hlong.out]
      exact ⟨rfl, Hb1.out⟩
    · rw [if_neg hlong] at hp
      have Hlong := Lib.hid hlong
      obtain ⟨Y, eY⟩ : ∃ Y, padTo4 (bytesO os) = Y := ⟨_, rfl⟩
      obtain ⟨YN, eYN⟩ : ∃ YN, Y.length = YN := ⟨_, rfl⟩
      have hpl := padTo4_len (bytesO os)
      rw [eY, eYN] at hpl
      rw [eY, eYN] at hp
      obtain ⟨A1, c1, rfl, ho1, hb1⟩ := hp
      have hYN : YN ≤ 40 ∧ YN % 4 = 0 := by omega
      have Hb1 := Lib.hid (below_trans Hba.out hb1)
      have hc8 := blk_cell (blk_on Hblk.out hb1) 8
      have Ho1 := Lib.hid ho1
      have EY := Lib.hid eY
      have EYN := Lib.hid eYN
      have hw1 : IntKind.i64.wrap (20 + (YN : Int)) = 20 + (YN : Int) := IntWalk.i64_in _ (by omega)
      have hw2 : IntKind.i64.wrap (20 + (YN : Int) + (nD : Int)) = 20 + (YN : Int) + (nD : Int) := IntWalk.i64_in _ (by omega)
      clear hb1 ho1 eY eYN hany hlong hpl
      by_cases hmost : 1480 < 20 + YN + nD
      · have hm : 1480 < 20 + (YN : Int) + (nD : Int) := by omega
        go_wp2_with fail
        go_ret2
        unfold OptionsIs
        rw [if_neg Hany.out, if_neg Hlong.out, if_pos (by unfold lenB optB; simp only [EY.out, EYN.out, Hdl.out]; omega)]
        exact ⟨rfl, Hb1.out⟩
      · have hm : 20 + (YN : Int) + (nD : Int) ≤ 1480 := by omega
        go_wp2_with fail
        go_ret2
        unfold OptionsIs
        rw [if_neg Hany.out, if_neg Hlong.out, if_neg (by unfold lenB optB; simp only [EY.out, EYN.out, Hdl.out]; omega)]
        refine ⟨A1, c1, ?_, ?_, Hb1.out⟩
        · unfold optB; simp only [EY.out, EYN.out]; rfl
        · unfold optB; simp only [EY.out, EYN.out]; exact Ho1.out.mono Hba.out.size

/-- Whether a segment may be. -/
def mayT (s : Seg) : Bool := !s.os.any badB && decide ((bytesO s.os).length ≤ 40) && decide (lenB s ≤ 1480)
/-- options, told by what may be: the error, or the options' bytes. -/
def errS (s : Seg) : Int := if s.os.any badB = true then 1 else if 40 < (bytesO s.os).length then 3 else if 1480 < lenB s then 3 else 0
theorem errS_zero (s : Seg) : errS s = 0 ↔ mayT s = true := by
  unfold errS mayT
  by_cases h1 : s.os.any badB = true
  · simp [h1]
  · by_cases h2 : 40 < (bytesO s.os).length
    · simp [h1, h2]; intro h; omega
    · have h2' : (bytesO s.os).length ≤ 40 := by omega
      have h1' : s.os.any badB = false := by simpa using h1
      by_cases h3 : 1480 < lenB s
      · simp [h1', h2, h2', h3]
      · have h3' : lenB s ≤ 1480 := by omega
        simp [h1', h2, h2', h3, h3']
theorem options_bad {s : Seg} {w w' : World} {e : Ending} (h : OptionsIs s w e w') (h0 : errS s ≠ 0) : e = .returned (.tuple #[.slice Option.none 0 0, .int .i64 (errS s)]) ∧ Below w.heap.size w w' := by
  unfold OptionsIs at h
  unfold errS at h0 ⊢
  by_cases h1 : s.os.any badB = true
  · rw [if_pos h1] at h ⊢; exact h
  · rw [if_neg h1] at h h0 ⊢
    by_cases h2 : 40 < (bytesO s.os).length
    · rw [if_pos h2] at h ⊢; exact h
    · rw [if_neg h2] at h h0 ⊢
      by_cases h3 : 1480 < lenB s
      · rw [if_pos h3] at h ⊢; exact h
      · rw [if_neg h3] at h0; exact absurd rfl h0
theorem options_good {s : Seg} {w w' : World} {e : Ending} (h : OptionsIs s w e w') (h0 : errS s = 0) : ∃ A c, e = .returned (.tuple #[.slice A (optB s).length c, .int .i64 0]) ∧ OwnB w' w.heap.size A (optB s).length c (optB s) ∧ Below w.heap.size w w' := by
  unfold OptionsIs at h
  unfold errS at h0
  by_cases h1 : s.os.any badB = true
  · rw [if_pos h1] at h0; omega
  · rw [if_neg h1] at h h0
    by_cases h2 : 40 < (bytesO s.os).length
    · rw [if_pos h2] at h0; omega
    · rw [if_neg h2] at h h0
      by_cases h3 : 1480 < lenB s
      · rw [if_pos h3] at h0; omega
      · rw [if_neg h3] at h; exact h

end Go.Proofs.Ytoegfgbalcholaa

/-
  The contracts of package ipv4's May, lay and Put.
-/
namespace Go.Proofs.Ytoegfgbalcholaa
set_option maxRecDepth 10000
open Go.RowKit

theorem wraps_u8 (n : Int) (h₀ : 0 ≤ n) (h₁ : n < 2 ^ 8) : IntKind.u8.wrap n = n := by simp [IntKind.wrap, IntKind.bits, IntKind.signed]; omega

theorem may_any (tos id_ ttl proto src dst : Int) (df : Bool) (A : Option Addr) (n c : Nat) (w : World) :
    Calls Try.prog 33 #[(.agg #[.int .u8 tos, .int .u16 id_, .bool df, .int .u8 ttl, .int .u8 proto, .int .u32 src, .int .u32 dst, .slice A n c])] w (BoolIs (mayB ttl n) w) := by
  have hb := (Below.refl w.heap.size w).alloc (Nat.le_refl _) (.cells #[.int .u8 tos, .int .u16 id_, .bool df, .int .u8 ttl, .int .u8 proto, .int .u32 src, .int .u32 dst, .slice A n c] 43)
  have Hb := Lib.hid hb
  clear hb
  have fin : ∀ x y, x = y → BoolIs y w (.returned (.bool x)) (w.alloc (.cells #[.int .u8 tos, .int .u16 id_, .bool df, .int .u8 ttl, .int .u8 proto, .int .u32 src, .int .u32 dst, .slice A n c] 43)) := fun x y e => ⟨by rw [e], Hb.out⟩
  have Fin := Lib.hid fin
  clear fin
  obtain ⟨r, er⟩ : ∃ r, mayB ttl n = r := ⟨_, rfl⟩
  rw [er]
  have Er := Lib.hid er
  clear er
  by_cases h1 : 0 < ttl
  · by_cases h2 : (n : Int) ≤ 40
    · by_cases h3 : (n : Int) % 4 = 0
      · have h4 : ((n : Int) % 4 == 0) = true := by simpa using h3
        go_enter Try.func33, Try.ntmps33
        go_wp2_with fail
        go_ret
        exact Fin.out _ _ (by rw [← Er.out]; unfold mayB; simp [h1]; omega)
      · have h4 : ((n : Int) % 4 == 0) = false := by simpa using h3
        go_enter Try.func33, Try.ntmps33
        go_wp2_with fail
        go_ret
        exact Fin.out _ _ (by rw [← Er.out]; unfold mayB; simp [h1]; omega)
    · have h2' : 40 < (n : Int) := by omega
      go_enter Try.func33, Try.ntmps33
      go_wp2_with fail
      go_ret
      exact Fin.out _ _ (by rw [← Er.out]; unfold mayB; simp [h1]; omega)
  · have h1' : ttl ≤ 0 := by omega
    go_enter Try.func33, Try.ntmps33
    go_wp2_with fail
    go_ret
    exact Fin.out _ _ (by rw [← Er.out]; unfold mayB; simp; omega)

/-- Two rows of the call's own. -/
def RowsAre (n1 : Nat) (l1 : List Int) (n2 : Nat) (l2 : List Int) (w : World) (e : Ending) (w' : World) : Prop :=
  ∃ A1 c1 A2 c2, e = .returned (.tuple #[.slice A1 n1 c1, .slice A2 n2 c2]) ∧ OwnB w' w.heap.size A1 n1 c1 l1 ∧ OwnB w' w.heap.size A2 n2 c2 l2 ∧ Below w.heap.size w w'

/-- A row, told by its list alone. -/
theorem u8_lays_ (A : Option Addr) (n m c : Nat) (l : List Int) (x : Int) (w : World) (hx : 0 ≤ x ∧ x < 256) (hc : n ≤ c ∧ c ≤ maxLen) (hm : m = n + 1) (hl : n ≤ 100000) (h : Rd w A n l) :
    Calls Try.prog 67 #[.slice A n c, .int .u8 x] w (RowIs m (l ++ [x]) w) := by subst hm; exact u8_lays A n c l x w hx hc (by omega) h
theorem u16_lays_ (A : Option Addr) (n m c : Nat) (l : List Int) (x : Int) (w : World) (hx : 0 ≤ x ∧ x < 65536) (hc : n ≤ c ∧ c ≤ maxLen) (hm : m = n + 2) (hl : n ≤ 100000) (h : Rd w A n l) :
    Calls Try.prog 37 #[.slice A n c, .int .u16 x] w (RowIs m (l ++ b16 x) w) := by subst hm; exact u16_lays A n c l x w hx hc (by omega) h
theorem u32_lays_ (A : Option Addr) (n m c : Nat) (l : List Int) (x : Int) (w : World) (hx : 0 ≤ x ∧ x < 4294967296) (hc : n ≤ c ∧ c ≤ maxLen) (hm : m = n + 4) (hl : n ≤ 100000) (h : Rd w A n l) :
    Calls Try.prog 65 #[.slice A n c, .int .u32 x] w (RowIs m (l ++ b32 x) w) := by subst hm; exact u32_lays A n c l x w hx hc (by omega) h

theorem or8_64 (x : Int) (h : 0 ≤ x ∧ x < 64) : bits .or .u8 64 x = 64 + x := by
  have := bits_join .u8 8 (by decide) wraps_u8 6 64 x (by omega) (by omega) (by omega) (by omega) (by omega) (by omega)
  exact this

theorem OwnB.rdB {w : World} {B : Nat} {A : Option Addr} {n c : Nat} {l : List Int} (h : OwnB w B A n c l) (hl : Bytes l) : Rd w A n l := h.rd hl

theorem concat_told (A : Option Addr) (n c m : Nat) (ls : List (List Int)) (w : World) (hn : n ≤ 1000000) (h : RdL w A n ls) (hm : ls.flatten.length = m) (hx : m ≤ 140737488355328) :
    Calls Try.prog 36 #[.slice A n c] w (RowIs m ls.flatten w) := by subst hm; exact concat_any A n c ls w hn h hx

theorem RdL.four (w : World) (t : TypeId) (A B C D : Option Addr) (n c n1 c1 n2 c2 n3 c3 : Nat) (l l1 l2 l3 : List Int) (hc : n ≤ c ∧ c ≤ maxLen) (hc1 : n1 ≤ c1 ∧ c1 ≤ maxLen) (hc2 : n2 ≤ c2 ∧ c2 ≤ maxLen) (hc3 : n3 ≤ c3 ∧ c3 ≤ maxLen) (h : Rd w A n l) (h1 : Rd w B n1 l1) (h2 : Rd w C n2 l2) (h3 : Rd w D n3 l3) :
    RdL (w.alloc (.cells #[.slice A n c, .slice B n1 c1, .slice C n2 c2, .slice D n3 c3] t)) (some ⟨w.heap.size, 0, none⟩) 4 [l, l1, l2, l3] := by
  have := h.len; have := h1.len; have := h2.len; have := h3.len
  subst n n1 n2 n3
  refine RdL.row w _ rfl t (0, 0) [.slice A l.length c, .slice B l1.length c1, .slice C l2.length c2, .slice D l3.length c3] [l, l1, l2, l3] (fun i hi => ?_)
  match i, hi with
  | 0, _ => exact ⟨A, c, rfl, hc.1, hc.2, h⟩
  | 1, _ => exact ⟨B, c1, rfl, hc1.1, hc1.2, h1⟩
  | 2, _ => exact ⟨C, c2, rfl, hc2.1, hc2.2, h2⟩
  | 3, _ => exact ⟨D, c3, rfl, hc3.1, hc3.2, h3⟩

theorem lay_ip (tos id_ ttl proto src dst : Int) (df : Bool) (A : Option Addr) (n c : Nat) (opts : List Int) (long : Int) (w : World)
    (h0 : 0 ≤ tos ∧ tos < 256) (h1 : 0 ≤ id_ ∧ id_ < 65536) (h2 : 0 ≤ ttl ∧ ttl < 256) (h3 : 0 ≤ proto ∧ proto < 256) (h4 : 0 ≤ src ∧ src < 4294967296) (h5 : 0 ≤ dst ∧ dst < 4294967296)
    (hn : n ≤ 40) (hc : n ≤ c ∧ c ≤ maxLen) (hl : 0 ≤ long ∧ long < 65536) (h : Rd w A n opts) :
    Calls Try.prog 34 #[(.agg #[.int .u8 tos, .int .u16 id_, .bool df, .int .u8 ttl, .int .u8 proto, .int .u32 src, .int .u32 dst, .slice A n c]), .int .i64 (20 + (n : Int)), .int .i64 long] w (RowsAre 10 (aheadL tos id_ df ttl proto n long) (8 + n) (behindL src dst opts) w) := by
  have hq0 : 0 ≤ (20 + (n : Int)) / 4 ∧ (20 + (n : Int)) / 4 < 64 := by omega
  have hqn : Hid (64 + (20 + (n : Int)) / 4 < 256) := by show _ < _; omega
  have hlo := wraps_u16 long hl.1 (by omega)
  have hho := wraps_u8 ((20 + (n : Int)) / 4) (by omega) (by omega)
  have hbhd := behindL_bytes h4 h5 h.byte
  have hA := aheadL_bytes (df := df) h0 h1 h2 h3 hn hl
  have HA := Lib.hid hA
  have Hbh := Lib.hid hbhd
  have hfl : 0 ≤ flagsOf df ∧ flagsOf df < 65536 := by unfold flagsOf; split <;> omega
  have Hal := Lib.hid (show aheadL tos id_ df ttl proto n long = [] ++ [64 + (20 + (n : Int)) / 4] ++ [tos] ++ b16 long ++ b16 id_ ++ b16 (flagsOf df) ++ [ttl] ++ [proto] by simp [aheadL])
  have Hbl := Lib.hid (show behindL src dst opts = ([[] ++ b32 src ++ b32 dst, opts] : List (List Int)).flatten by simp [behindL])
  have Hbn := Lib.hid (show ([[] ++ b32 src ++ b32 dst, opts] : List (List Int)).flatten.length = 8 + n by simp [b32, h.len]; omega)
  have B1 := Lib.hid (show Bytes ([] ++ [64 + (20 + (n : Int)) / 4]) by intro y hy; simp at hy; omega)
  have B2 := Lib.hid (B1.out.app (show Bytes [tos] by intro y hy; simp at hy; omega))
  have B3 := Lib.hid (B2.out.app (b16_bytes hl))
  have B4 := Lib.hid (B3.out.app (b16_bytes h1))
  have B5 := Lib.hid (B4.out.app (b16_bytes hfl))
  have B6 := Lib.hid (B5.out.app (show Bytes [ttl] by intro y hy; simp at hy; omega))
  have C1 := Lib.hid (show Bytes ([] ++ b32 src) by simpa using b32_bytes h4)
  have C2 := Lib.hid (C1.out.app (b32_bytes h5))
  have hhor := or8_64 ((20 + (n : Int)) / 4) hq0
  obtain ⟨q, eq⟩ : ∃ q, (20 + (n : Int)) / 4 = q := ⟨_, rfl⟩
  rw [eq] at hq0 hho hhor hqn Hal B1 B2 B3 B4 B5 B6
  have Hh := Lib.hid h
  have Hhb := Lib.hid h.byte
  clear hA hbhd h
  obtain ⟨hl0, hl1⟩ := id hl
  obtain ⟨q0, q1⟩ := hq0
  have hqn := hqn.out
  have hx1 : 0 ≤ 64 + q ∧ 64 + q < 256 := by omega
  have Hblk := Lib.hid (heap_alloc_new w (.cells #[.int .u8 tos, .int .u16 id_, .bool df, .int .u8 ttl, .int .u8 proto, .int .u32 src, .int .u32 dst, .slice A n c] 43))
  have Hb := Lib.hid ((Below.refl w.heap.size w).alloc (Nat.le_refl _) (.cells #[.int .u8 tos, .int .u16 id_, .bool df, .int .u8 ttl, .int .u8 proto, .int .u32 src, .int .u32 dst, .slice A n c] 43))
  obtain ⟨fl, efl⟩ : ∃ fl, flagsOf df = fl := ⟨_, rfl⟩
  rw [efl] at hfl Hal B5 B6
  have Efl := Lib.hid efl
  clear efl
  have hc_ := hc
  cases df
  · have hflv : fl = 0 := Efl.out.symm
    subst hflv
    clear Efl
    go_enter Try.func34, Try.ntmps34
    go_wp2_with fail
    clear eq hhor hho
    (with_reducible refine (u8_lays_ none 0 1 0 _ (64 + q) _ (by assumption) ⟨by omega, by first | assumption | simp [maxLen]⟩ rfl (by omega) (Rd.nil _ _)).mono ?_)
    rintro e w1 ⟨A1, c1, rfl, k1, m1, hown, hb⟩
    have Ho := Lib.hid (hown.mono (B' := w.heap.size) Hb.out.size)
    have Hb0 := Hb
    have Hb := Lib.hid (below_trans Hb.out hb)
    have Hblk := Lib.hid (blk_on Hblk.out hb)
    have hc := blk_cell Hblk.out 0
    simp at hc
    have hb1 := Lib.hid hb
    clear hown hb Hb0
    go_wp2_with fail
    (with_reducible refine (u8_lays_ A1 1 2 c1 _ tos _ (by assumption) ⟨by omega, by first | assumption | simp [maxLen]⟩ rfl (by omega) (Ho.out.rdB B1.out)).mono ?_)
    rintro e w2 ⟨A2, c2, rfl, k2, m2, hown, hb⟩
    have Ho := Lib.hid (hown.mono (B' := w.heap.size) Hb.out.size)
    have Hb0 := Hb
    have Hb := Lib.hid (below_trans Hb.out hb)
    have Hblk := Lib.hid (blk_on Hblk.out hb)
    have hc := blk_cell Hblk.out 1
    simp at hc
    have hb2 := Lib.hid hb
    clear hown hb Hb0
    go_wp2_with fail
    (with_reducible refine (u16_lays_ A2 2 4 c2 _ long _ (by assumption) ⟨by omega, by first | assumption | simp [maxLen]⟩ rfl (by omega) (Ho.out.rdB B2.out)).mono ?_)
    rintro e w3 ⟨A3, c3, rfl, k3, m3, hown, hb⟩
    have Ho := Lib.hid (hown.mono (B' := w.heap.size) Hb.out.size)
    have Hb0 := Hb
    have Hb := Lib.hid (below_trans Hb.out hb)
    have Hblk := Lib.hid (blk_on Hblk.out hb)
    have hc := blk_cell Hblk.out 1
    simp at hc
    have hb3 := Lib.hid hb
    clear hown hb Hb0
    go_wp2_with fail
    (with_reducible refine (u16_lays_ A3 4 6 c3 _ id_ _ (by assumption) ⟨by omega, by first | assumption | simp [maxLen]⟩ rfl (by omega) (Ho.out.rdB B3.out)).mono ?_)
    rintro e w4 ⟨A4, c4, rfl, k4, m4, hown, hb⟩
    have Ho := Lib.hid (hown.mono (B' := w.heap.size) Hb.out.size)
    have Hb0 := Hb
    have Hb := Lib.hid (below_trans Hb.out hb)
    have Hblk := Lib.hid (blk_on Hblk.out hb)
    have hc := blk_cell Hblk.out 3
    simp at hc
    have hb4 := Lib.hid hb
    clear hown hb Hb0
    go_wp2_with fail
    (with_reducible refine (u16_lays_ A4 6 8 c4 _ 0 _ (by assumption) ⟨by omega, by first | assumption | simp [maxLen]⟩ rfl (by omega) (Ho.out.rdB B4.out)).mono ?_)
    rintro e w5 ⟨A5, c5, rfl, k5, m5, hown, hb⟩
    have Ho := Lib.hid (hown.mono (B' := w.heap.size) Hb.out.size)
    have Hb0 := Hb
    have Hb := Lib.hid (below_trans Hb.out hb)
    have Hblk := Lib.hid (blk_on Hblk.out hb)
    have hc := blk_cell Hblk.out 3
    simp at hc
    have hb5 := Lib.hid hb
    clear hown hb Hb0
    go_wp2_with fail
    (with_reducible refine (u8_lays_ A5 8 9 c5 _ ttl _ (by assumption) ⟨by omega, by first | assumption | simp [maxLen]⟩ rfl (by omega) (Ho.out.rdB B5.out)).mono ?_)
    rintro e w6 ⟨A6, c6, rfl, k6, m6, hown, hb⟩
    have Ho := Lib.hid (hown.mono (B' := w.heap.size) Hb.out.size)
    have Hb0 := Hb
    have Hb := Lib.hid (below_trans Hb.out hb)
    have Hblk := Lib.hid (blk_on Hblk.out hb)
    have hc := blk_cell Hblk.out 4
    simp at hc
    have hb6 := Lib.hid hb
    clear hown hb Hb0
    go_wp2_with fail
    (with_reducible refine (u8_lays_ A6 9 10 c6 _ proto _ (by assumption) ⟨by omega, by first | assumption | simp [maxLen]⟩ rfl (by omega) (Ho.out.rdB B6.out)).mono ?_)
    rintro e w7 ⟨A7, c7, rfl, k7, m7, hown, hb⟩
    have Ho := Lib.hid (hown.mono (B' := w.heap.size) Hb.out.size)
    have Hb0 := Hb
    have Hb := Lib.hid (below_trans Hb.out hb)
    have Hblk := Lib.hid (blk_on Hblk.out hb)
    have hc := blk_cell Hblk.out 5
    simp at hc
    have hb7 := Lib.hid hb
    clear hown hb Hb0
    go_wp2_with fail
    have Ha := Ho
    (with_reducible refine (u32_lays_ none 0 4 0 _ src _ (by assumption) ⟨by omega, by first | assumption | simp [maxLen]⟩ rfl (by omega) (Rd.nil _ _)).mono ?_)
    rintro e w8 ⟨A8, c8, rfl, k8, m8, hown, hb⟩
    have Ho := Lib.hid (hown.mono (B' := w.heap.size) Hb.out.size)
    have Hb0 := Hb
    have Hb := Lib.hid (below_trans Hb.out hb)
    have Hblk := Lib.hid (blk_on Hblk.out hb)
    have hc := blk_cell Hblk.out 6
    simp at hc
    have hb8 := Lib.hid hb
    clear hown hb Hb0
    go_wp2_with fail
    have Ha := Lib.hid (Ha.out.on hb8.out)
    (with_reducible refine (u32_lays_ A8 4 8 c8 _ dst _ (by assumption) ⟨by omega, by first | assumption | simp [maxLen]⟩ rfl (by omega) (Ho.out.rdB C1.out)).mono ?_)
    rintro e w9 ⟨A9, c9, rfl, k9, m9, hown, hb⟩
    have Ho := Lib.hid (hown.mono (B' := w.heap.size) Hb.out.size)
    have Hb0 := Hb
    have Hb := Lib.hid (below_trans Hb.out hb)
    have Hblk := Lib.hid (blk_on Hblk.out hb)
    have hc := blk_cell Hblk.out 7
    simp at hc
    have hb9 := Lib.hid hb
    clear hown hb Hb0
    go_wp2_with fail
    have Ha := Lib.hid (Ha.out.on hb9.out)
    have Hoo := Lib.hid (Hh.out.below Hb.out)
    (with_reducible refine (concat_told _ 2 2 (8 + n) [[] ++ b32 src ++ b32 dst, opts] _ (by omega) (RdL.twoW _ _ A9 A 8 c9 n c _ _ ⟨by omega, by assumption⟩ hc_ (Ho.out.rdB C2.out) Hoo.out) Hbn.out (by omega)).mono ?_)
    rintro e w10 ⟨A10, c10, rfl, k10, m10, hown, hb⟩
    have hal := (Below.refl w9.heap.size w9).alloc (Nat.le_refl _) (.cells #[.slice A9 8 c9, .slice A n c] 22)
    have hbb := below_trans hal hb
    have Hr := Lib.hid (show RowsAre 10 (aheadL tos id_ false ttl proto n long) (8 + n) (behindL src dst opts) w (.returned (.tuple #[.slice A7 10 c7, .slice A10 (8 + n) c10])) w10 from
      ⟨A7, c7, A10, c10, rfl, by rw [Hal.out]; exact Ha.out.on hbb, by rw [Hbl.out]; exact hown.mono (by have := Hb.out.size; simp; omega), below_trans Hb.out hbb⟩)
    clear hown hb hal hbb
    go_wp2_with fail
    go_ret2
    exact Hr.out
  · have hflv : fl = 16384 := Efl.out.symm
    subst hflv
    clear Efl
    go_enter Try.func34, Try.ntmps34
    go_wp2_with fail
    clear eq hhor hho
    (with_reducible refine (u8_lays_ none 0 1 0 _ (64 + q) _ (by assumption) ⟨by omega, by first | assumption | simp [maxLen]⟩ rfl (by omega) (Rd.nil _ _)).mono ?_)
    rintro e w1 ⟨A1, c1, rfl, k1, m1, hown, hb⟩
    have Ho := Lib.hid (hown.mono (B' := w.heap.size) Hb.out.size)
    have Hb0 := Hb
    have Hb := Lib.hid (below_trans Hb.out hb)
    have Hblk := Lib.hid (blk_on Hblk.out hb)
    have hc := blk_cell Hblk.out 0
    simp at hc
    have hb1 := Lib.hid hb
    clear hown hb Hb0
    go_wp2_with fail
    (with_reducible refine (u8_lays_ A1 1 2 c1 _ tos _ (by assumption) ⟨by omega, by first | assumption | simp [maxLen]⟩ rfl (by omega) (Ho.out.rdB B1.out)).mono ?_)
    rintro e w2 ⟨A2, c2, rfl, k2, m2, hown, hb⟩
    have Ho := Lib.hid (hown.mono (B' := w.heap.size) Hb.out.size)
    have Hb0 := Hb
    have Hb := Lib.hid (below_trans Hb.out hb)
    have Hblk := Lib.hid (blk_on Hblk.out hb)
    have hc := blk_cell Hblk.out 1
    simp at hc
    have hb2 := Lib.hid hb
    clear hown hb Hb0
    go_wp2_with fail
    (with_reducible refine (u16_lays_ A2 2 4 c2 _ long _ (by assumption) ⟨by omega, by first | assumption | simp [maxLen]⟩ rfl (by omega) (Ho.out.rdB B2.out)).mono ?_)
    rintro e w3 ⟨A3, c3, rfl, k3, m3, hown, hb⟩
    have Ho := Lib.hid (hown.mono (B' := w.heap.size) Hb.out.size)
    have Hb0 := Hb
    have Hb := Lib.hid (below_trans Hb.out hb)
    have Hblk := Lib.hid (blk_on Hblk.out hb)
    have hc := blk_cell Hblk.out 1
    simp at hc
    have hb3 := Lib.hid hb
    clear hown hb Hb0
    go_wp2_with fail
    (with_reducible refine (u16_lays_ A3 4 6 c3 _ id_ _ (by assumption) ⟨by omega, by first | assumption | simp [maxLen]⟩ rfl (by omega) (Ho.out.rdB B3.out)).mono ?_)
    rintro e w4 ⟨A4, c4, rfl, k4, m4, hown, hb⟩
    have Ho := Lib.hid (hown.mono (B' := w.heap.size) Hb.out.size)
    have Hb0 := Hb
    have Hb := Lib.hid (below_trans Hb.out hb)
    have Hblk := Lib.hid (blk_on Hblk.out hb)
    have hc := blk_cell Hblk.out 3
    simp at hc
    have hb4 := Lib.hid hb
    clear hown hb Hb0
    go_wp2_with fail
    (with_reducible refine (u16_lays_ A4 6 8 c4 _ 16384 _ (by assumption) ⟨by omega, by first | assumption | simp [maxLen]⟩ rfl (by omega) (Ho.out.rdB B4.out)).mono ?_)
    rintro e w5 ⟨A5, c5, rfl, k5, m5, hown, hb⟩
    have Ho := Lib.hid (hown.mono (B' := w.heap.size) Hb.out.size)
    have Hb0 := Hb
    have Hb := Lib.hid (below_trans Hb.out hb)
    have Hblk := Lib.hid (blk_on Hblk.out hb)
    have hc := blk_cell Hblk.out 3
    simp at hc
    have hb5 := Lib.hid hb
    clear hown hb Hb0
    go_wp2_with fail
    (with_reducible refine (u8_lays_ A5 8 9 c5 _ ttl _ (by assumption) ⟨by omega, by first | assumption | simp [maxLen]⟩ rfl (by omega) (Ho.out.rdB B5.out)).mono ?_)
    rintro e w6 ⟨A6, c6, rfl, k6, m6, hown, hb⟩
    have Ho := Lib.hid (hown.mono (B' := w.heap.size) Hb.out.size)
    have Hb0 := Hb
    have Hb := Lib.hid (below_trans Hb.out hb)
    have Hblk := Lib.hid (blk_on Hblk.out hb)
    have hc := blk_cell Hblk.out 4
    simp at hc
    have hb6 := Lib.hid hb
    clear hown hb Hb0
    go_wp2_with fail
    (with_reducible refine (u8_lays_ A6 9 10 c6 _ proto _ (by assumption) ⟨by omega, by first | assumption | simp [maxLen]⟩ rfl (by omega) (Ho.out.rdB B6.out)).mono ?_)
    rintro e w7 ⟨A7, c7, rfl, k7, m7, hown, hb⟩
    have Ho := Lib.hid (hown.mono (B' := w.heap.size) Hb.out.size)
    have Hb0 := Hb
    have Hb := Lib.hid (below_trans Hb.out hb)
    have Hblk := Lib.hid (blk_on Hblk.out hb)
    have hc := blk_cell Hblk.out 5
    simp at hc
    have hb7 := Lib.hid hb
    clear hown hb Hb0
    go_wp2_with fail
    have Ha := Ho
    (with_reducible refine (u32_lays_ none 0 4 0 _ src _ (by assumption) ⟨by omega, by first | assumption | simp [maxLen]⟩ rfl (by omega) (Rd.nil _ _)).mono ?_)
    rintro e w8 ⟨A8, c8, rfl, k8, m8, hown, hb⟩
    have Ho := Lib.hid (hown.mono (B' := w.heap.size) Hb.out.size)
    have Hb0 := Hb
    have Hb := Lib.hid (below_trans Hb.out hb)
    have Hblk := Lib.hid (blk_on Hblk.out hb)
    have hc := blk_cell Hblk.out 6
    simp at hc
    have hb8 := Lib.hid hb
    clear hown hb Hb0
    go_wp2_with fail
    have Ha := Lib.hid (Ha.out.on hb8.out)
    (with_reducible refine (u32_lays_ A8 4 8 c8 _ dst _ (by assumption) ⟨by omega, by first | assumption | simp [maxLen]⟩ rfl (by omega) (Ho.out.rdB C1.out)).mono ?_)
    rintro e w9 ⟨A9, c9, rfl, k9, m9, hown, hb⟩
    have Ho := Lib.hid (hown.mono (B' := w.heap.size) Hb.out.size)
    have Hb0 := Hb
    have Hb := Lib.hid (below_trans Hb.out hb)
    have Hblk := Lib.hid (blk_on Hblk.out hb)
    have hc := blk_cell Hblk.out 7
    simp at hc
    have hb9 := Lib.hid hb
    clear hown hb Hb0
    go_wp2_with fail
    have Ha := Lib.hid (Ha.out.on hb9.out)
    have Hoo := Lib.hid (Hh.out.below Hb.out)
    (with_reducible refine (concat_told _ 2 2 (8 + n) [[] ++ b32 src ++ b32 dst, opts] _ (by omega) (RdL.twoW _ _ A9 A 8 c9 n c _ _ ⟨by omega, by assumption⟩ hc_ (Ho.out.rdB C2.out) Hoo.out) Hbn.out (by omega)).mono ?_)
    rintro e w10 ⟨A10, c10, rfl, k10, m10, hown, hb⟩
    have hal := (Below.refl w9.heap.size w9).alloc (Nat.le_refl _) (.cells #[.slice A9 8 c9, .slice A n c] 22)
    have hbb := below_trans hal hb
    have Hr := Lib.hid (show RowsAre 10 (aheadL tos id_ true ttl proto n long) (8 + n) (behindL src dst opts) w (.returned (.tuple #[.slice A7 10 c7, .slice A10 (8 + n) c10])) w10 from
      ⟨A7, c7, A10, c10, rfl, by rw [Hal.out]; exact Ha.out.on hbb, by rw [Hbl.out]; exact hown.mono (by have := Hb.out.size; simp; omega), below_trans Hb.out hbb⟩)
    clear hown hb hal hbb
    go_wp2_with fail
    go_ret2
    exact Hr.out

def NoneIs (x : Int) (w : World) (e : Ending) (w' : World) : Prop := e = .returned (.tuple #[.slice none 0 0, .int .i64 x]) ∧ Below w.heap.size w w'
/-- A row of the call's own, and OK. -/
def RowOk (m : Nat) (l : List Int) (w : World) (e : Ending) (w' : World) : Prop :=
  ∃ A c, e = .returned (.tuple #[.slice A m c, .int .i64 0]) ∧ m ≤ c ∧ c ≤ maxLen ∧ OwnB w' w.heap.size A m c l ∧ Below w.heap.size w w'

theorem put_arg (tos id_ ttl proto src dst : Int) (df : Bool) (A A' : Option Addr) (n c n' c' : Nat) (w : World) (hm : mayB ttl n = false) :
    Calls Try.prog 15 #[(.agg #[.int .u8 tos, .int .u16 id_, .bool df, .int .u8 ttl, .int .u8 proto, .int .u32 src, .int .u32 dst, .slice A n c]), .slice A' n' c'] w (NoneIs 1 w) := by
  have Hb := Lib.hid ((Below.refl w.heap.size w).alloc (Nat.le_refl _) (.cells #[.int .u8 tos, .int .u16 id_, .bool df, .int .u8 ttl, .int .u8 proto, .int .u32 src, .int .u32 dst, .slice A n c] 43))
  have Hm := Lib.hid hm
  clear hm
  go_enter Try.func15, Try.ntmps15
  go_wp2_with fail
  refine (may_any tos id_ ttl proto src dst df A n c _).mono ?_
  rw [Hm.out]
  rintro e w1 ⟨rfl, hb⟩
  have Hb := Lib.hid (below_trans Hb.out hb)
  clear hb
  go_wp2_with fail
  go_ret2
  exact ⟨rfl, Hb.out⟩

theorem put_long (tos id_ ttl proto src dst : Int) (df : Bool) (A A' : Option Addr) (n c n' c' : Nat) (w : World) (hm : mayB ttl n = true) (hn : n ≤ 40) (hn' : n' ≤ 140737488355328) (hl : 1500 < 20 + n + n') :
    Calls Try.prog 15 #[(.agg #[.int .u8 tos, .int .u16 id_, .bool df, .int .u8 ttl, .int .u8 proto, .int .u32 src, .int .u32 dst, .slice A n c]), .slice A' n' c'] w (NoneIs 3 w) := by
  have Hb := Lib.hid ((Below.refl w.heap.size w).alloc (Nat.le_refl _) (.cells #[.int .u8 tos, .int .u16 id_, .bool df, .int .u8 ttl, .int .u8 proto, .int .u32 src, .int .u32 dst, .slice A n c] 43))
  have Hblk := Lib.hid (heap_alloc_new w (.cells #[.int .u8 tos, .int .u16 id_, .bool df, .int .u8 ttl, .int .u8 proto, .int .u32 src, .int .u32 dst, .slice A n c] 43))
  have Hm := Lib.hid hm
  have hli : 1500 < 20 + (n : Int) + (n' : Int) := by omega
  clear hm hl
  go_enter Try.func15, Try.ntmps15
  go_wp2_with fail
  refine (may_any tos id_ ttl proto src dst df A n c _).mono ?_
  rw [Hm.out]
  rintro e w1 ⟨rfl, hb⟩
  have Hb := Lib.hid (below_trans Hb.out hb)
  have Hblk := Lib.hid (blk_on Hblk.out hb)
  have hc := blk_cell Hblk.out 7
  simp at hc
  clear hb
  go_wp2_with fail
  go_ret2
  exact ⟨rfl, Hb.out⟩

theorem put_ok (tos id_ ttl proto src dst : Int) (df : Bool) (A A' : Option Addr) (n c n' c' : Nat) (opts payload : List Int) (w : World)
    (h0 : 0 ≤ tos ∧ tos < 256) (h1 : 0 ≤ id_ ∧ id_ < 65536) (h2 : 0 ≤ ttl ∧ ttl < 256) (h3 : 0 ≤ proto ∧ proto < 256) (h4 : 0 ≤ src ∧ src < 4294967296) (h5 : 0 ≤ dst ∧ dst < 4294967296)
    (hm : mayB ttl n = true) (hn : n ≤ 40) (hc : n ≤ c ∧ c ≤ maxLen) (hc' : n' ≤ c' ∧ c' ≤ maxLen) (hl : 20 + n + n' ≤ 1500) (h : Rd w A n opts) (h' : Rd w A' n' payload) :
    Calls Try.prog 15 #[(.agg #[.int .u8 tos, .int .u16 id_, .bool df, .int .u8 ttl, .int .u8 proto, .int .u32 src, .int .u32 dst, .slice A n c]), .slice A' n' c'] w (RowOk (20 + n + n') (packetL tos id_ df ttl proto src dst opts payload) w) := by
  have Hb := Lib.hid ((Below.refl w.heap.size w).alloc (Nat.le_refl _) (.cells #[.int .u8 tos, .int .u16 id_, .bool df, .int .u8 ttl, .int .u8 proto, .int .u32 src, .int .u32 dst, .slice A n c] 43))
  have Hblk := Lib.hid (heap_alloc_new w (.cells #[.int .u8 tos, .int .u16 id_, .bool df, .int .u8 ttl, .int .u8 proto, .int .u32 src, .int .u32 dst, .slice A n c] 43))
  have Hm := Lib.hid hm
  have hli : 20 + (n : Int) + (n' : Int) ≤ 1500 := by omega
  have hlw : 0 ≤ 20 + (n : Int) + (n' : Int) ∧ 20 + (n : Int) + (n' : Int) < 65536 := by omega
  have Ho := Lib.hid h
  have Hp := Lib.hid h'
  have Hlo := Lib.hid h.len
  have Hlp := Lib.hid h'.len
  have hA := Lib.hid (aheadL_bytes (df := df) h0 h1 h2 h3 hn hlw)
  have hB := Lib.hid (behindL_bytes h4 h5 h.byte)
  clear hm hl h h'
  go_enter Try.func15, Try.ntmps15
  go_wp2_with fail
  refine (may_any tos id_ ttl proto src dst df A n c _).mono ?_
  rw [Hm.out]
  rintro e w1 ⟨rfl, hb⟩
  have Hb := Lib.hid (below_trans Hb.out hb)
  have Hblk := Lib.hid (blk_on Hblk.out hb)
  have hc7 := blk_cell Hblk.out 7
  have hc0 := blk_cell Hblk.out 0
  have hc1 := blk_cell Hblk.out 1
  have hc2 := blk_cell Hblk.out 2
  have hc3 := blk_cell Hblk.out 3
  have hc4 := blk_cell Hblk.out 4
  have hc5 := blk_cell Hblk.out 5
  have hc6 := blk_cell Hblk.out 6
  simp at hc0 hc1 hc2 hc3 hc4 hc5 hc6 hc7
  have Ho := Lib.hid (Ho.out.below Hb.out)
  have Hp := Lib.hid (Hp.out.below Hb.out)
  clear hb
  go_wp2_with fail
  clear hc0 hc1 hc2 hc3 hc4 hc5 hc6 hc7
  (with_reducible refine (lay_ip tos id_ ttl proto src dst df A n c opts _ _ h0 h1 h2 h3 h4 h5 hn hc hlw Ho.out).mono ?_)
  rintro e w2 ⟨A1, c1, A2, c2, rfl, ho1, ho2, hb⟩
  have Ho1 := Lib.hid (ho1.mono Hb.out.size)
  have Ho2 := Lib.hid (ho2.mono Hb.out.size)
  have hk1 := ho1.cap
  have hk2 := ho2.cap
  have hm1 := ho1.capMax
  have hm2 := ho2.capMax
  have Hp := Lib.hid (Hp.out.below hb)
  have Hb := Lib.hid (below_trans Hb.out hb)
  clear ho1 ho2 hb
  go_wp2_with fail
  have Hal := Lib.hid ((Below.refl w2.heap.size w2).alloc (Nat.le_refl _) (.cells #[.slice A1 10 c1, .slice A2 (8 + n) c2] 22))
  obtain ⟨fd, efd⟩ : ∃ fd, 65535 - sumL ([aheadL tos id_ df ttl proto n (20 + (n : Int) + (n' : Int)), behindL src dst opts] : List (List Int)).flatten = fd := ⟨_, rfl⟩
  have hfd : 0 ≤ fd ∧ fd < 65536 := by have := sumL_bd ([aheadL tos id_ df ttl proto n (20 + (n : Int) + (n' : Int)), behindL src dst opts] : List (List Int)).flatten; omega
  have Efd := Lib.hid efd
  clear efd
  (with_reducible refine (field_told _ 2 2 [aheadL tos id_ df ttl proto n (20 + (n : Int) + (n' : Int)), behindL src dst opts] _ fd (by omega) (RdL.twoW _ _ A1 A2 10 c1 (8 + n) c2 _ _ ⟨hk1, hm1⟩ ⟨hk2, hm2⟩ (Ho1.out.rdB hA.out) (Ho2.out.rdB hB.out)) Efd.out).mono ?_)
  rintro e w3 ⟨rfl, hb⟩
  have hbb := below_trans Hal.out hb
  have Ho1 := Lib.hid (Ho1.out.on hbb)
  have Ho2 := Lib.hid (Ho2.out.on hbb)
  have Hp := Lib.hid (Hp.out.below hbb)
  have Hb := Lib.hid (below_trans Hb.out hbb)
  clear hb hbb Hal
  go_wp2_with fail
  (with_reducible refine (u16_lays_ none 0 2 0 [] fd _ hfd ⟨by omega, by simp [maxLen]⟩ rfl (by omega) (Rd.nil _ _)).mono ?_)
  rintro e w4 ⟨A4, c4, rfl, k4, m4, ho4, hb⟩
  have Ho4 := Lib.hid (ho4.mono Hb.out.size)
  have Ho1 := Lib.hid (Ho1.out.on hb)
  have Ho2 := Lib.hid (Ho2.out.on hb)
  have Hp := Lib.hid (Hp.out.below hb)
  have Hb := Lib.hid (below_trans Hb.out hb)
  have B4 := Lib.hid (show Bytes ([] ++ b16 fd) by simpa using b16_bytes hfd)
  clear hb ho4
  go_wp2_with fail
  have Hal := Lib.hid ((Below.refl w4.heap.size w4).alloc (Nat.le_refl _) (.cells #[.slice A1 10 c1, .slice A4 2 c4, .slice A2 (8 + n) c2, .slice A' n' c'] 22))
  (with_reducible refine (concat_told _ 4 4 (20 + n + n') [aheadL tos id_ df ttl proto n (20 + (n : Int) + (n' : Int)), [] ++ b16 fd, behindL src dst opts, payload] _ (by omega) (RdL.four _ _ A1 A4 A2 A' 10 c1 2 c4 (8 + n) c2 n' c' _ _ _ _ ⟨hk1, hm1⟩ ⟨k4, m4⟩ ⟨hk2, hm2⟩ hc' (Ho1.out.rdB hA.out) (Ho4.out.rdB B4.out) (Ho2.out.rdB hB.out) Hp.out) ?_ (by omega)).mono ?_)
  · have := Hlo.out; have := Hlp.out; simp [behindL_len, aheadL_len, b16]; omega
  rintro e w5 ⟨A5, c5, rfl, k5, m5, ho5, hb⟩
  have Hr := Lib.hid (show RowOk (20 + n + n') (packetL tos id_ df ttl proto src dst opts payload) w (.returned (.tuple #[.slice A5 (20 + n + n') c5, .int .i64 0])) w5 from by
    refine ⟨A5, c5, rfl, k5, m5, ?_, below_trans Hb.out (below_trans Hal.out hb)⟩
    have e1 : packetL tos id_ df ttl proto src dst opts payload = ([aheadL tos id_ df ttl proto n (20 + (n : Int) + (n' : Int)), [] ++ b16 fd, behindL src dst opts, payload] : List (List Int)).flatten := by
      unfold packetL fieldL
      rw [Hlo.out, Hlp.out, ← Efd.out]
      simp
    rw [e1]
    exact ho5.mono (by have := Hb.out.size; simp; omega))
  clear ho5 hb Hal
  go_wp2_with fail
  go_ret2
  exact Hr.out

end Go.Proofs.Ytoegfgbalcholaa
