/-
  Texts laid together: SegParse, SegGood, TcpPart, Blk.
-/
import Derived.Test.YtoegfgbalcholaaZD14
import Derived.Test.YtoegfgbalcholaaZD09
import Derived.Test.YtoegfgbalcholaaZD10
import Derived.Test.YtoegfgbalcholaaZD04
import Derived.Test.YtoegfgbalcholaaZD01
import Derived.Test.YtoegfgbalcholaaZD06
import Derived.Deep.Slices
import Derived.ChangeSame

/-
  The contract of culvertref06's Parse.
-/
namespace Go.Proofs.Ytoegfgbalcholaa
set_option maxRecDepth 10000
open Go.RowKit

/-- The rest of a row of bytes, s[lo:], as one run equation. -/
theorem Rd.rest {w : World} {A : Option Addr} {n c : Nat} {l : List Int} (h : Rd w A n l) (lo : Nat) (loi : Int) (h0 : 0 < n) (hlo : lo ≤ n) (hc : n ≤ c) (hcm : c ≤ maxLen) (el : loi = (lo : Int)) :
    ∃ A', (∀ W : World, (Instr.sliceAt 22 (.slice A n c) (some (.int .i64 loi)) none none).run Try.prog W = .ok (.slice A' (n - lo) (c - lo)) W) ∧ Rd w A' (n - lo) (l.drop lo) := by
  subst el
  obtain ⟨b, o, rfl, _, _⟩ := h.at_ h0
  unfold maxLen at hcm
  have i0 : (0 : Int) ≤ (lo : Int) := by omega
  have i1 : (lo : Int) ≤ (n : Int) := by omega
  have i2 : (n : Int) ≤ (c : Int) := by omega
  have i3 : lo ≤ c := by omega
  by_cases hl : lo = c
  · subst hl
    obtain rfl : n = lo := by omega
    refine ⟨some ⟨b, o, none⟩, fun W => by go_simp, ?_⟩
    rw [Nat.sub_self, List.drop_eq_nil_of_le (by rw [h.len]; omega)]
    exact Rd.nil _ _
  · have i4 : ¬ c = lo := fun e => hl e.symm
    refine ⟨some ⟨b, o + lo, none⟩, fun W => by go_simp, ?_⟩
    exact h.drop_ rfl (by omega)

/-- How many bytes it says stand ahead of the Data. -/
def offB (b : List Int) : Nat := (b.getD 12 0 / 16 * 4).toNat
/-- What is wrong with a segment's bytes. -/
def errSeg (src dst : Int) (b : List Int) : Int :=
  if 1480 < b.length then 3 else if b.length < 20 then 4 else if offB b < 20 then 5 else if b.length < offB b then 4
  else if sumL (pseudoL src dst 6 b.length ++ b) ≠ 65535 then 20 else if (parseO ((b.take (offB b)).drop 20)).2 ≠ 0 then 5 else 0
end Go.Proofs.Ytoegfgbalcholaa

/-
  The contract of culvertref06's Parse where nothing is wrong.
-/
namespace Go.Proofs.Ytoegfgbalcholaa
set_option maxRecDepth 10000
open Go.RowKit

end Go.Proofs.Ytoegfgbalcholaa

/-
  The contracts of package tcp's number, row and lay: function values that lay bytes behind a row of the caller's own, and a slice of them done one behind the other.
-/
namespace Go.Proofs.Ytoegfgbalcholaa
set_option maxRecDepth 10000
open Go.RowKit

/-- A row of the caller's own (from block B on), grown. -/
def GrownIs (B m : Nat) (l : List Int) (w : World) (e : Ending) (w' : World) : Prop := ∃ A c, e = .returned (.slice A m c) ∧ OwnB w' B A m c l ∧ Below B w w'
/-- A function value lays lk behind any row of its caller's own. -/
structure PartDo (F : FuncId) (caps : Array Value) (w : World) (lk : List Int) : Prop where
  ent : ∀ args W, (callFunc F args).run Try.prog W = .ok (.enter F args) W
  byte : Bytes lk
  run : ∀ (w1 : World) (B : Nat) (A : Option Addr) (n c m : Nat) (l : List Int), Below w.heap.size w w1 → w.heap.size ≤ B → B ≤ w1.heap.size → OwnB w1 B A n c l → Bytes l → n ≤ 100000 → lk.length ≤ 100000 → m = n + lk.length →
    Calls Try.prog F (#[.slice A n c] ++ caps) w1 (GrownIs B m (l ++ lk) w1)
theorem PartDo.on {F : FuncId} {caps : Array Value} {w w' : World} {lk : List Int} (h : PartDo F caps w lk) (hb : Below w.heap.size w w') : PartDo F caps w' lk :=
  ⟨h.ent, h.byte, fun w1 B A n c m l h1 h2 => h.run w1 B A n c m l (below_trans hb h1) (Nat.le_trans hb.size h2)⟩
/-- A function value is told that lays lk. -/
def MakesPart (lk : List Int) (w : World) (e : Ending) (w' : World) : Prop := ∃ F caps, e = .returned (.func (.func F) #[] caps) ∧ PartDo F caps w' lk ∧ Below w.heap.size w w'

/-- Two boxes that a call lays. -/
theorem two_boxes (w : World) (z : Nat) (hz : w.heap.size = z) (v0 v1 : Value) (t0 t1 : TypeId) (w1 : World) (hb : Below ((w.alloc (.cells #[v0] t0)).alloc (.cells #[v1] t1)).heap.size ((w.alloc (.cells #[v0] t0)).alloc (.cells #[v1] t1)) w1) :
    w1.cell? ⟨z, 0, none⟩ = some v0 ∧ w1.cell? ⟨z + 1, 0, none⟩ = some v1 := by
  subst hz
  have h0 := blk_on (g := w.heap.size) (by rw [Below.heap_alloc _ _ _ (by simp)]; exact heap_alloc_new w _) hb
  have h1 := blk_on (g := w.heap.size + 1) (by simpa using heap_alloc_new (w.alloc (.cells #[v0] t0)) (.cells #[v1] t1)) hb
  exact ⟨blk_cell h0 0, blk_cell h1 0⟩

theorem u8_part (x : Int) (w : World) (hx : 0 ≤ x ∧ x < 256) :
    Calls Try.prog 66 #[.func (.func 67) #[] #[], .int .u8 x] w (MakesPart [x] w) := by
  have hmf : ∀ (fn : Fn) (first cap : Array Value) (w : World), (Instr.makeFunc fn first cap).run Try.prog w = .ok (.func fn first cap) w := fun _ _ _ _ => rfl
  obtain ⟨z, hz⟩ : ∃ z, w.heap.size = z := ⟨_, rfl⟩
  have hb : Below w.heap.size w ((w.alloc (.cells #[.func (.func 67) #[] #[]] 117)).alloc (.cells #[.int .u8 x] 5)) := ((Below.refl _ _).alloc (Nat.le_refl _) _).alloc (by simp) _
  have hp : PartDo 83 #[.pointer (some ⟨z, 0, none⟩), .pointer (some ⟨z + 1, 0, none⟩)] ((w.alloc (.cells #[.func (.func 67) #[] #[]] 117)).alloc (.cells #[.int .u8 x] 5)) [x] := by
    refine ⟨enter_of Try.func83 (by kernel_rfl) rfl, by intro y hy; simp at hy; omega, fun w1 B A n c m l h1 h2 h3 hown hbl hn _ hm => ?_⟩
    obtain ⟨q0, q1⟩ := two_boxes w z hz _ _ _ _ w1 h1
    have Hu := Lib.hid (u8_lays A n c l x w1 hx ⟨hown.cap, hown.capMax⟩ (by omega) (hown.rd hbl))
    have H3 := Lib.hid h3
    have Hm := Lib.hid hm
    clear h1 h2 h3 hown hm
    show Calls Try.prog _ #[.slice A n c, .pointer (some ⟨z, 0, none⟩), .pointer (some ⟨z + 1, 0, none⟩)] w1 _
    go_enter Try.func83, Try.ntmps83
    go_wp2_with fail
    refine Hu.out.mono ?_
    rintro e w2 ⟨A2, c2, rfl, k1, k2, hown2, hb2⟩
    have Ho := Lib.hid (hown2.mono H3.out)
    have Hb := Lib.hid (hb2.mono H3.out)
    clear hown2 hb2
    go_wp2_with fail
    go_ret
    rw [Hm.out]
    exact ⟨A2, c2, rfl, Ho.out, Hb.out⟩
  have Hp := Lib.hid hp
  have Hb := Lib.hid hb
  clear hp hb
  go_enter Try.func66, Try.ntmps66
  go_wp2_with fail
  go_ret
  exact ⟨_, _, rfl, Hp.out, Hb.out⟩
theorem u16_part (x : Int) (w : World) (hx : 0 ≤ x ∧ x < 65536) :
    Calls Try.prog 63 #[.func (.func 37) #[] #[], .int .u16 x] w (MakesPart (be16 x) w) := by
  have hmf : ∀ (fn : Fn) (first cap : Array Value) (w : World), (Instr.makeFunc fn first cap).run Try.prog w = .ok (.func fn first cap) w := fun _ _ _ _ => rfl
  obtain ⟨z, hz⟩ : ∃ z, w.heap.size = z := ⟨_, rfl⟩
  have hb : Below w.heap.size w ((w.alloc (.cells #[.func (.func 37) #[] #[]] 84)).alloc (.cells #[.int .u16 x] 24)) := ((Below.refl _ _).alloc (Nat.le_refl _) _).alloc (by simp) _
  have hp : PartDo 81 #[.pointer (some ⟨z, 0, none⟩), .pointer (some ⟨z + 1, 0, none⟩)] ((w.alloc (.cells #[.func (.func 37) #[] #[]] 84)).alloc (.cells #[.int .u16 x] 24)) (be16 x) := by
    refine ⟨enter_of Try.func81 (by kernel_rfl) rfl, by intro y hy; simp [be16] at hy; omega, fun w1 B A n c m l h1 h2 h3 hown hbl hn _ hm => ?_⟩
    obtain ⟨q0, q1⟩ := two_boxes w z hz _ _ _ _ w1 h1
    have Hu := Lib.hid (u16_lays A n c l x w1 hx ⟨hown.cap, hown.capMax⟩ (by omega) (hown.rd hbl))
    have H3 := Lib.hid h3
    have Hm := Lib.hid hm
    clear h1 h2 h3 hown hm
    show Calls Try.prog _ #[.slice A n c, .pointer (some ⟨z, 0, none⟩), .pointer (some ⟨z + 1, 0, none⟩)] w1 _
    go_enter Try.func81, Try.ntmps81
    go_wp2_with fail
    refine Hu.out.mono ?_
    rintro e w2 ⟨A2, c2, rfl, k1, k2, hown2, hb2⟩
    have Ho := Lib.hid (hown2.mono H3.out)
    have Hb := Lib.hid (hb2.mono H3.out)
    clear hown2 hb2
    go_wp2_with fail
    go_ret
    rw [Hm.out]
    exact ⟨A2, c2, rfl, Ho.out, Hb.out⟩
  have Hp := Lib.hid hp
  have Hb := Lib.hid hb
  clear hp hb
  go_enter Try.func63, Try.ntmps63
  go_wp2_with fail
  go_ret
  exact ⟨_, _, rfl, Hp.out, Hb.out⟩
theorem u32_part (x : Int) (w : World) (hx : 0 ≤ x ∧ x < 4294967296) :
    Calls Try.prog 64 #[.func (.func 65) #[] #[], .int .u32 x] w (MakesPart (be32 x) w) := by
  have hmf : ∀ (fn : Fn) (first cap : Array Value) (w : World), (Instr.makeFunc fn first cap).run Try.prog w = .ok (.func fn first cap) w := fun _ _ _ _ => rfl
  obtain ⟨z, hz⟩ : ∃ z, w.heap.size = z := ⟨_, rfl⟩
  have hb : Below w.heap.size w ((w.alloc (.cells #[.func (.func 65) #[] #[]] 115)).alloc (.cells #[.int .u32 x] 23)) := ((Below.refl _ _).alloc (Nat.le_refl _) _).alloc (by simp) _
  have hp : PartDo 82 #[.pointer (some ⟨z, 0, none⟩), .pointer (some ⟨z + 1, 0, none⟩)] ((w.alloc (.cells #[.func (.func 65) #[] #[]] 115)).alloc (.cells #[.int .u32 x] 23)) (be32 x) := by
    refine ⟨enter_of Try.func82 (by kernel_rfl) rfl, by intro y hy; simp [be32] at hy; omega, fun w1 B A n c m l h1 h2 h3 hown hbl hn _ hm => ?_⟩
    obtain ⟨q0, q1⟩ := two_boxes w z hz _ _ _ _ w1 h1
    have Hu := Lib.hid (u32_lays A n c l x w1 hx ⟨hown.cap, hown.capMax⟩ (by omega) (hown.rd hbl))
    have H3 := Lib.hid h3
    have Hm := Lib.hid hm
    clear h1 h2 h3 hown hm
    show Calls Try.prog _ #[.slice A n c, .pointer (some ⟨z, 0, none⟩), .pointer (some ⟨z + 1, 0, none⟩)] w1 _
    go_enter Try.func82, Try.ntmps82
    go_wp2_with fail
    refine Hu.out.mono ?_
    rintro e w2 ⟨A2, c2, rfl, k1, k2, hown2, hb2⟩
    have Ho := Lib.hid (hown2.mono H3.out)
    have Hb := Lib.hid (hb2.mono H3.out)
    clear hown2 hb2
    go_wp2_with fail
    go_ret
    rw [Hm.out]
    exact ⟨A2, c2, rfl, Ho.out, Hb.out⟩
  have Hp := Lib.hid hp
  have Hb := Lib.hid hb
  clear hp hb
  go_enter Try.func64, Try.ntmps64
  go_wp2_with fail
  go_ret
  exact ⟨_, _, rfl, Hp.out, Hb.out⟩

theorem row_part (A' : Option Addr) (n' c' : Nat) (l' : List Int) (w : World) (hr : Rd w A' n' l') :
    Calls Try.prog 68 #[.slice A' n' c'] w (MakesPart l' w) := by
  have hmf : ∀ (fn : Fn) (first cap : Array Value) (w : World), (Instr.makeFunc fn first cap).run Try.prog w = .ok (.func fn first cap) w := fun _ _ _ _ => rfl
  obtain ⟨z, hz⟩ : ∃ z, w.heap.size = z := ⟨_, rfl⟩
  have hb : Below w.heap.size w (w.alloc (.cells #[.slice A' n' c'] 22)) := (Below.refl _ _).alloc (Nat.le_refl _) _
  have hp : PartDo 84 #[.pointer (some ⟨z, 0, none⟩)] (w.alloc (.cells #[.slice A' n' c'] 22)) l' := by
    refine ⟨enter_of Try.func84 (by kernel_rfl) rfl, hr.byte, fun w1 B A n c m l h1 h2 h3 hown hbl hn hk hm => ?_⟩
    have q0 := blk_cell (blk_on (heap_alloc_new w (.cells #[.slice A' n' c'] 22)) h1) 0
    rw [hz] at q0
    have Hr := Lib.hid (hr.below (below_trans hb h1))
    have Ho := Lib.hid hown
    have H3 := Lib.hid h3
    have hk' : n' ≤ 100000 := by rw [← hr.len]; exact hk
    have Hm := Lib.hid (show m = n + n' by rw [hm, hr.len])
    clear h1 h2 h3 hown hm hr
    show Calls Try.prog _ #[.slice A n c, .pointer (some ⟨z, 0, none⟩)] w1 _
    go_enter Try.func84, Try.ntmps84
    go_wp2_with (refine wpList_app rfl (.tmp 4) (.tmp 5) rfl B A A' n c n' c' _ l' rfl rfl Ho.out Hr.out (by omega) H3.out ?_; intro A2 c2 w2 hown2 _ hb2 _)
    go_ret
    rw [Hm.out]
    exact ⟨A2, c2, rfl, hown2, hb2⟩
  have Hp := Lib.hid hp
  have Hb := Lib.hid hb
  clear hp hb
  go_enter Try.func68, Try.ntmps68
  go_wp2_with fail
  go_ret
  exact ⟨_, _, rfl, Hp.out, Hb.out⟩

/-- A slice of function values that lay the lists ls. -/
structure RdP (w : World) (A : Option Addr) (n : Nat) (ls : List (List Int)) : Prop where
  len : ls.length = n
  at_ : 0 < n → ∃ b o, A = some ⟨b, o, none⟩ ∧ b < w.heap.size ∧ ∀ i, i < n → ∃ F caps, w.cell? ⟨b, o + i, none⟩ = some (.func (.func F) #[] caps) ∧ PartDo F caps w (ls.getD i [])
theorem RdP.index {w : World} {A : Option Addr} {n c : Nat} {ls : List (List Int)} (h : RdP w A n ls) {j : Nat} (hj : j < n) :
    ∃ p F caps, (∀ W : World, (Instr.indexAt 128 (.slice A n c) (.int .i64 (j : Int))).run Try.prog W = .ok (.pointer (some p)) W) ∧ p.block < w.heap.size ∧ w.cell? p = some (.func (.func F) #[] caps) ∧ PartDo F caps w (ls.getD j []) := by
  obtain ⟨b, o, rfl, hb, hc⟩ := h.at_ (by omega)
  have h0 : (0 : Int) ≤ (j : Int) := by omega
  have h1 : (j : Int) < (n : Int) := by omega
  obtain ⟨F, caps, e1, e2⟩ := hc j hj
  exact ⟨⟨b, o + j, none⟩, F, caps, fun W => by go_simp, hb, e1, e2⟩
theorem RdP.below {w w' : World} {A : Option Addr} {n : Nat} {ls : List (List Int)} (h : RdP w A n ls) (hb : Below w.heap.size w w') : RdP w' A n ls :=
  ⟨h.len, fun hn => by
    obtain ⟨b, o, e, hlt, hc⟩ := h.at_ hn
    refine ⟨b, o, e, Nat.lt_of_lt_of_le hlt hb.size, fun i hi => ?_⟩
    obtain ⟨F, caps, h1, h2⟩ := hc i hi
    exact ⟨F, caps, by rw [hb.cell (p := ⟨b, o + i, none⟩) hlt]; exact h1, h2.on hb⟩⟩
/-- A row of function values that the walk has just laid. -/
theorem RdP.row (w : World) (g : Nat) (hg : w.heap.size = g) (t : TypeId) (fr : Nat × Nat) (vs : List Value) (ls : List (List Int)) (n : Nat) (hn : ls.length = n)
    (h : ∀ i, i < ls.length → ∃ F caps, vs[i]? = some (.func (.func F) #[] caps) ∧ PartDo F caps w (ls.getD i [])) :
    RdP (w.alloc (.cells vs.toArray t fr)) (some ⟨g, 0, none⟩) n ls := by
  subst hg; subst hn
  refine ⟨rfl, fun _ => ⟨w.heap.size, 0, rfl, by simp, fun i hi => ?_⟩⟩
  obtain ⟨F, caps, h1, h2⟩ := h i hi
  refine ⟨F, caps, ?_, h2.on ((Below.refl _ _).alloc (Nat.le_refl _) _)⟩
  rw [World.cell?_alloc_mark]
  simpa using h1

theorem parts_any (A : Option Addr) (n c T : Nat) (ls : List (List Int)) (w : World) (hn : n ≤ 1000) (h : RdP w A n ls) (hT : ls.flatten.length = T) (hm : T ≤ 100000) :
    Calls Try.prog 62 #[.slice A n c] w (RowIs T ls.flatten w) := by
  have Hlen := Lib.hid h.len
  have HT := Lib.hid hT
  have Hh := Lib.hid h
  clear h hT
  go_enter Try.func62, Try.ntmps62
  go_wp2_with fail
  go_loopg [3, 8] n (fun gk s i wr => ∃ (j m : Nat) (A2 : Option Addr) (c2 : Nat), Hid (gk + j = n) ∧ j ≤ n ∧ i = .int .i64 (j : Int) ∧ m ≤ 100000 ∧ s = .slice A2 m c2 ∧ Hid (OwnB wr w.heap.size A2 m c2 (ls.take j).flatten) ∧ Hid (Bytes (ls.take j).flatten) ∧ Below w.heap.size w wr)
  case atStart => exact ⟨0, 0, none, 0, rfl, Nat.zero_le _, rfl, by omega, rfl, Lib.hid (OwnB.nil _ _), Lib.hid (by intro x hx; simp at hx), Below.refl _ _⟩
  case round =>
    obtain ⟨j, m, A2, c2, hgk, hj, rfl, hmj, rfl, hown, hby, hb⟩ := hrel
    by_cases hlt : j < n
    · obtain ⟨q, F, caps, hrunq, hqb, hcq0, hpd⟩ := Hh.out.index (c := c) hlt
      have hcq : wr.cell? q = some (.func (.func F) #[] caps) := by rw [hb.cell hqb]; exact hcq0
      have hf := flat_take ls j (by rw [Hlen.out]; exact hlt)
      have hsum : m + (ls.getD j []).length ≤ 100000 := by
        have h1 := hown.out.len
        have h3 := flat_len_le ls (j + 1)
        rw [hf, List.length_append, h1] at h3
        have := HT.out
        omega
      have hF := hpd.ent
      have Hrun := Lib.hid (hpd.run wr w.heap.size A2 m c2 _ _ hb (Nat.le_refl _) hb.size hown.out hby.out hmj (by omega) rfl)
      have Hby := Lib.hid (show Bytes (ls.take (j + 1)).flatten by rw [hf]; exact hby.out.app hpd.byte)
      rw [← hf] at Hrun
      obtain ⟨k, ek⟩ : ∃ k, (ls.getD j []).length = k := ⟨_, rfl⟩
      rw [ek] at Hrun hsum
      clear hf hpd hcq0 ek hown hby
      go_wp2_with fail
      refine Hrun.out.mono ?_
      rintro e w2 ⟨A3, c3, rfl, hown3, hb3⟩
      have Hown3 := Lib.hid hown3
      have Hb3 := Lib.hid (hb.trans hb3)
      clear hown3 hb3
      go_wp2_with fail
      go_roundg (gk - 1)
      case measure => have := hgk.out; omega
      case rel => exact ⟨j + 1, m + k, A3, c3, by have := hgk.out; show gk - 1 + (j + 1) = _; omega, by omega, by go_num, hsum, rfl, Hown3, Hby, Hb3.out⟩
    · obtain rfl : j = n := by omega
      have ho := hown.out
      rw [List.take_of_length_le (by rw [Hlen.out]; exact Nat.le_refl _)] at ho
      have hmT : m = T := by rw [← ho.len, HT.out]
      subst hmT
      have Ho := Lib.hid ho
      clear ho
      go_wp2_with fail
      go_ret
      exact ⟨A2, c2, rfl, Ho.out.cap, Ho.out.capMax, Ho.out, hb⟩
end Go.Proofs.Ytoegfgbalcholaa

/-
  Slices of blocks (two numbers of 32 bits each): what they hold ('RdK'), one of the call's own ('OwnK'), append, one that comes in. No function of the program.
-/
namespace Go.Proofs.Ytoegfgbalcholaa
set_option maxRecDepth 10000
open Go.ChangeShapes Go.WideShapes Go.ChangeAt Go.RowKit Go.Deep

def U32P (p : Int × Int) : Prop := (0 ≤ p.1 ∧ p.1 < 4294967296) ∧ (0 ≤ p.2 ∧ p.2 < 4294967296)
def blkCells (l : List (Int × Int)) : List Value := l.flatMap fun p => [.int .u32 p.1, .int .u32 p.2]
theorem blkCells_len (l : List (Int × Int)) : (blkCells l).length = l.length * 2 := by
  induction l with
  | nil => rfl
  | cons o os ih => simp [blkCells] at ih ⊢; omega
theorem blkCells_at (l : List (Int × Int)) (i : Nat) (h : i < l.length) : (blkCells l)[i * 2]? = some (.int .u32 (l.getD i (0, 0)).1) ∧ (blkCells l)[i * 2 + 1]? = some (.int .u32 (l.getD i (0, 0)).2) := by
  induction l generalizing i with
  | nil => simp at h
  | cons o os ih =>
    cases i with
    | zero => simp [blkCells]
    | succ i =>
      have := ih i (by simpa using h)
      have e : (i + 1) * 2 = i * 2 + 1 + 1 := by omega
      rw [e]
      simpa [blkCells] using this
structure RdK (w : World) (A : Option Addr) (n : Nat) (l : List (Int × Int)) : Prop where
  len : l.length = n
  u32 : ∀ p ∈ l, U32P p
  at_ : 0 < n → ∃ b o, A = some ⟨b, o, none⟩ ∧ b < w.heap.size ∧ ∀ i, i < n → w.cell? ⟨b, o + i * 2, none⟩ = some (.int .u32 (l.getD i (0, 0)).1) ∧ w.cell? ⟨b, o + (i * 2 + 1), none⟩ = some (.int .u32 (l.getD i (0, 0)).2)
theorem RdK.nil (w : World) (A : Option Addr) : RdK w A 0 [] := ⟨rfl, by simp, fun h => absurd h (by omega)⟩
theorem RdK.below {w w' : World} {A : Option Addr} {n : Nat} {l : List (Int × Int)} (h : RdK w A n l) (hb : Below w.heap.size w w') : RdK w' A n l :=
  ⟨h.len, h.u32, fun hn => by
    obtain ⟨b, o, e, hlt, hc⟩ := h.at_ hn
    exact ⟨b, o, e, Nat.lt_of_lt_of_le hlt hb.size, fun i hi => ⟨by rw [hb.cell (p := ⟨b, o + i * 2, none⟩) hlt]; exact (hc i hi).1, by rw [hb.cell (p := ⟨b, o + (i * 2 + 1), none⟩) hlt]; exact (hc i hi).2⟩⟩⟩
theorem RdK.take {w : World} {A : Option Addr} {n k : Nat} {l : List (Int × Int)} (h : RdK w A n l) (hk : k ≤ n) : RdK w A k (l.take k) := by
  refine ⟨by rw [List.length_take, h.len]; omega, fun p hp => h.u32 p (List.mem_of_mem_take hp), fun hn => ?_⟩
  obtain ⟨b, o, e, hlt, hc⟩ := h.at_ (by omega)
  refine ⟨b, o, e, hlt, fun i hi => ?_⟩
  have e2 : (l.take k).getD i (0, 0) = l.getD i (0, 0) := by simp [List.getD, List.getElem?_take_of_lt hi]
  rw [e2]; exact hc i (by omega)
theorem RdK.one (w : World) (g : Nat) (hg : w.heap.size = g) (t : TypeId) (fr : Nat × Nat) (x y : Int) (h : U32P (x, y)) : RdK (w.alloc (.cells #[.int .u32 x, .int .u32 y] t fr)) (some ⟨g, 0, none⟩) 1 [(x, y)] := by
  subst hg
  refine ⟨rfl, by simpa using h, fun _ => ⟨w.heap.size, 0, rfl, by simp, fun i hi => ?_⟩⟩
  obtain rfl : i = 0 := by omega
  simp only [World.cell?_alloc_mark]
  simp

/-- '.slice A n c' is a slice of blocks (of type t) that the call made, from block B on. -/
def OwnK (t : TypeId) (w : World) (B : Nat) (A : Option Addr) (n c : Nat) (l : List (Int × Int)) : Prop := w.ownsRow B t 2 (.slice A n c) n (blkCells l)
theorem OwnK.len {t : TypeId} {w : World} {B : Nat} {A : Option Addr} {n c : Nat} {l : List (Int × Int)} (h : OwnK t w B A n c l) : l.length = n := by
  have := h.1
  rw [blkCells_len] at this
  omega
theorem OwnK.cap {t : TypeId} {w : World} {B : Nat} {A : Option Addr} {n c : Nat} {l : List (Int × Int)} (h : OwnK t w B A n c l) : n ≤ c ∧ c ≤ maxLen := by
  rcases h.2 with ⟨e, rfl⟩ | ⟨g, cap, cur, e, _, _, hnc, hcm, _⟩
  · injection e with _ _ e3; subst e3; simp
  · injection e with _ _ e3; subst e3; exact ⟨hnc, hcm⟩
theorem OwnK.nil (t : TypeId) (w : World) (B : Nat) : OwnK t w B none 0 0 [] := World.ownsRow_nil w B t 2
theorem OwnK.rd {t : TypeId} {w : World} {B : Nat} {A : Option Addr} {n c : Nat} {l : List (Int × Int)} (h : OwnK t w B A n c l) (hl : ∀ p ∈ l, U32P p) : RdK w A n l := by
  refine ⟨h.len, hl, fun hn => ?_⟩
  rcases id h.2 with ⟨e, h0⟩ | ⟨g, cap, cur, e, _, hg, _⟩
  · omega
  · injection e with e1 e2 e3
    subst e1
    refine ⟨g, 0, rfl, lt_of_block hg, fun i hi => ?_⟩
    have hlen := h.len
    have hat := blkCells_at l i (by omega)
    rw [Nat.zero_add, Nat.zero_add]
    have h' : w.ownsRow B t 2 (.slice (some ⟨g, 0, none⟩) n c) n (blkCells l) := h
    exact ⟨by rw [World.ownsRow.cellAt h' _ (by omega)]; exact hat.1, by rw [World.ownsRow.cellAt h' _ (by omega)]; exact hat.2⟩
theorem OwnK.mono {t : TypeId} {w : World} {B B' : Nat} {A : Option Addr} {n c : Nat} {l : List (Int × Int)} (h : OwnK t w B A n c l) (hB : B' ≤ B) : OwnK t w B' A n c l := by
  refine ⟨h.1, ?_⟩
  rcases h.2 with h0 | ⟨g, cap, cur, e, hg, r⟩
  · exact .inl h0
  · exact .inr ⟨g, cap, cur, e, Nat.le_trans hB hg, r⟩
theorem OwnK.on {t : TypeId} {w w' : World} {B : Nat} {A : Option Addr} {n c : Nat} {l : List (Int × Int)} (h : OwnK t w B A n c l) (hb : Below w.heap.size w w') : OwnK t w' B A n c l := by
  refine ⟨h.1, ?_⟩
  rcases h.2 with h0 | ⟨g, cap, cur, e, hB, hc, hrest⟩
  · exact .inl h0
  · exact .inr ⟨g, cap, cur, e, hB, (hb.block g (lt_of_block hc)).trans hc, hrest⟩
theorem OwnK.form {t : TypeId} {w : World} {B : Nat} {v : Value} {n : Nat} {l : List (Int × Int)} (h : w.ownsRow B t 2 v n (blkCells l)) : ∃ A c, v = .slice A n c ∧ OwnK t w B A n c l := by
  rcases id h.2 with ⟨rfl, rfl⟩ | ⟨g, cap, cur, rfl, _⟩
  · exact ⟨none, 0, rfl, h⟩
  · exact ⟨_, _, rfl, h⟩
end Go.Proofs.Ytoegfgbalcholaa
