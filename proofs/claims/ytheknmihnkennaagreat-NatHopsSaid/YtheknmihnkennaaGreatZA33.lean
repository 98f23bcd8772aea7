/-
  Texts laid together: TupRef, NatFace, NatHopsW, NatWakes.
-/
import Derived.Test.YtheknmihnkennaaGreatZA32
import Derived.Test.YtheknmihnkennaaGreatZA09
import Derived.Test.YtheknmihnkennaaGreatZA05
import Derived.Test.YtheknmihnkennaaGreatZA03
import Derived.Deep.CutRange
import Derived.RegionTactic
import Derived.Test.YtheknmihnkennaaGreatZA31
import Derived.Test.YtheknmihnkennaaGreatZA28
import Derived.Test.YtheknmihnkennaaGreatZA18
import Derived.Test.YtheknmihnkennaaGreatZA24
import Derived.Test.YtheknmihnkennaaGreatZA07
import Derived.BigRegion
import Derived.Test.YtheknmihnkennaaGreatZA29
import Derived.Test.YtheknmihnkennaaGreatZA25

/-
  The document's own answers for tuples (culvertref10): Reverse, Of, Bytes, Compare.
-/
namespace Go.Proofs.YtheknmihnkennaaGreat
set_option maxRecDepth 10000
open Go.RowKit
set_option linter.unusedSimpArgs false
set_option linter.unusedVariables false

/-- A packet's tuple, if it has one. -/
def isT (p : Pk) : Bool := decide (p.h.pr = 6) || (decide (p.h.pr = 17) || (decide (p.h.pr = 1) && echoM p.m.ty p.m.cd))
def zeroTu : Tu := ⟨0, 0, 0, 0, 0⟩
def tupT (p : Pk) : Tu := if p.h.pr = 6 then ⟨p.h.pr, p.h.sr, p.h.ds, p.s.sp, p.s.dp⟩ else if p.h.pr = 17 then ⟨p.h.pr, p.h.sr, p.h.ds, p.u.sp, p.u.dp⟩ else if p.h.pr = 1 ∧ echoM p.m.ty p.m.cd = true then ⟨p.h.pr, p.h.sr, p.h.ds, p.m.rs / 65536, 0⟩ else zeroTu
def OfIs (t : Tu) (x : Bool) (w : World) (e : Ending) (w' : World) : Prop := e = .returned (.tuple #[.agg #[.int .u8 t.pr, .int .u32 t.sr, .int .u32 t.ds, .int .u16 t.sp, .int .u16 t.dp], .bool x]) ∧ Below w.heap.size w w'
end Go.Proofs.YtheknmihnkennaaGreat

/-
  What Hop and Rewrite must do, as the laws ask it (stage 15, written ahead).
-/
namespace Go.Proofs.YtheknmihnkennaaGreat
set_option maxRecDepth 10000
open Go.RowKit
set_option linter.unusedSimpArgs false
set_option linter.unusedVariables false

/-- Bytes of the call's own and an error. -/
def OwnGot (L : List Int) (m : Nat) (x : Int) (w : World) (e : Ending) (w' : World) : Prop := ∃ A c, e = .returned (.tuple #[.slice A m c, .int .i64 x]) ∧ OwnB w' w.heap.size A m c L ∧ Below w.heap.size w w'
/-- What Hop does with any bytes of at most 1600. -/
def HopF : Prop := ∀ (A : Option Addr) (n c : Nat) (l : List Int) (w : World) (L : List Int) (m : Nat) (x : Int), n ≤ c ∧ c ≤ maxLen → n ≤ 1600 → Rd w A n l → hopT l = L → L.length = m → errHop l = x →
  Calls Tryz.prog 7 #[.slice A n c] w (OwnGot L m x w)
/-- The words that become the tuple's. -/
def portK (b : List Int) (t : Tu) : List (Nat × Int) := if b.getD 9 0 = 1 then [(hdW b + 2, t.sp)] else [(hdW b, t.sp), (hdW b + 1, t.dp)]
def rwK (b : List Int) (t : Tu) (hop : Bool) : List (Nat × Int) := [(6, t.sr / 65536), (7, t.sr % 65536), (8, t.ds / 65536), (9, t.ds % 65536)] ++ (portK b t ++ (if hop = true then [hopK b] else []))
/-- What Rewrite tells of any bytes. -/
def errRw (b : List Int) (t : Tu) (hop : Bool) : Int :=
  if errAll b ≠ 0 then errAll b
  else if isT (pkOfB b) = false then 22
  else if t.pr ≠ b.getD 9 0 ∨ (t.pr = 1 ∧ t.dp ≠ 0) then 1
  else if hop = true ∧ b.getD 8 0 = 1 then 23
  else 0
def rwT (b : List Int) (t : Tu) (hop : Bool) : List Int := if errRw b t hop = 0 then rwB b (rwK b t hop) else []
def RwF : Prop := ∀ (A : Option Addr) (n c : Nat) (l : List Int) (t : Tu) (hop : Bool) (w : World) (L : List Int) (m : Nat) (x : Int), n ≤ c ∧ c ≤ maxLen → n ≤ 1600 → Rd w A n l → TuNum t → rwT l t hop = L → L.length = m → errRw l t hop = x →
  Calls Tryz.prog 11 #[.slice A n c, .agg #[.int .u8 t.pr, .int .u32 t.sr, .int .u32 t.ds, .int .u16 t.sp, .int .u16 t.dp], .bool hop] w (OwnGot L m x w)
def AwF : Prop := ∀ w : World, Calls Tryz.prog 8 #[] w (Woke w)
/-- The words of a rewriting may be changed. -/
theorem rw_may {b : List Int} {t : Tu} {hop : Bool} (hb : Bytes b) (ht : TuNum t) (h8 : hop = true → 1 < b.getD 8 0) : ∀ p ∈ rwK b t hop, MayW b p := by
  have h1 := ht.sr; have h2 := ht.ds; have h3 := ht.sp; have h4 := ht.dp
  intro p hp
  unfold rwK at hp
  rcases List.mem_append.1 hp with hp | hp
  · simp only [List.mem_cons, List.not_mem_nil, or_false] at hp
    rcases hp with rfl | rfl | rfl | rfl
    · exact ⟨⟨by simp only; omega, by simp only; omega⟩, .inr (.inl ⟨by simp only; omega, by simp only; omega⟩)⟩
    · exact ⟨⟨by simp only; omega, by simp only; omega⟩, .inr (.inl ⟨by simp only; omega, by simp only; omega⟩)⟩
    · exact ⟨⟨by simp only; omega, by simp only; omega⟩, .inr (.inl ⟨by simp only; omega, by simp only; omega⟩)⟩
    · exact ⟨⟨by simp only; omega, by simp only; omega⟩, .inr (.inl ⟨by simp only; omega, by simp only; omega⟩)⟩
  rcases List.mem_append.1 hp with hp | hp
  · unfold portK at hp
    by_cases hc : b.getD 9 0 = 1
    · rw [if_pos hc] at hp
      rcases List.mem_singleton.1 hp
      exact ⟨⟨by simp only; omega, by simp only; omega⟩, .inr (.inr (.inr ⟨hc, rfl⟩))⟩
    · rw [if_neg hc] at hp
      simp only [List.mem_cons, List.not_mem_nil, or_false] at hp
      rcases hp with rfl | rfl
      · exact ⟨⟨by simp only; omega, by simp only; omega⟩, .inr (.inr (.inl ⟨hc, by simp only; omega, by simp only; omega⟩))⟩
      · exact ⟨⟨by simp only; omega, by simp only; omega⟩, .inr (.inr (.inl ⟨hc, by simp only; omega, by simp only; omega⟩))⟩
  · by_cases hh : hop = true
    · rw [if_pos hh] at hp
      exact hop_may hb (h8 hh) p hp
    · rw [if_neg hh] at hp; cases hp
end Go.Proofs.YtheknmihnkennaaGreat

/-
  NatHops: the walk, over what Hop and awake tell (stage 15, written ahead).
-/
namespace Go.Proofs.YtheknmihnkennaaGreat.natHopsW
set_option maxRecDepth 10000
open Go.ChangeShapes Go.WideShapes Go.ChangeAt Go.RowKit
set_option linter.unusedVariables false
set_option linter.unusedSimpArgs false

theorem wraps8 (n : Int) (h₀ : 0 ≤ n) (h₁ : n < 256) : IntKind.u8.wrap n = n := by simp [IntKind.wrap, IntKind.bits, IntKind.signed]; omega
def less (p : Pk) : Pk := ⟨{ p.h with tt := p.h.tt - 1 }, p.s, p.u, p.m⟩
theorem less_rd {w : World} {p : Pk} {a : PkA} (h : PkRd w p a) (h1 : 1 ≤ p.h.tt) : PkRd w (less p) a :=
  ⟨⟨h.hn.to, h.hn.id, (by have := h.hn.tt; show 0 ≤ p.h.tt - 1 ∧ p.h.tt - 1 < 256; omega), h.hn.pr, h.hn.sr, h.hn.ds⟩, h.hc, h.hr, h.sr, h.un, h.uc, h.ur, h.mn, h.mc, h.mr⟩
/-- The round's bytes: a packet; it stands in the box. -/
structure At (W wr : World) (g n : Nat) (p : Pk) (a : PkA) (l : List Int) (A : Option Addr) (m c : Nat) : Prop where
  blk : wr.heap[g]? = some (.cells #[.int .u8 p.h.to, .int .u16 p.h.id, .bool p.h.df, .int .u8 p.h.tt, .int .u8 p.h.pr, .int .u32 p.h.sr, .int .u32 p.h.ds, .slice a.AH a.nH a.cH, .int .u16 p.s.sp, .int .u16 p.s.dp, .int .u32 p.s.sq, .int .u32 p.s.ak, .int .u8 p.s.fl, .int .u16 p.s.wn, .int .u16 p.s.ug, .slice a.AO a.nO a.cO, .slice a.AD a.nD a.cD, .int .u16 p.u.sp, .int .u16 p.u.dp, .slice a.AU a.nU a.cU, .int .u8 p.m.ty, .int .u8 p.m.cd, .int .u32 p.m.rs, .slice a.AM a.nM a.cM] 35 (0, 0))
  rd : PkRd wr p a
  off : a.Off (fun k => k = g)
  nO : a.nO ≤ 20
  byte : Bytes l
  ok : errAll l = 0
  len : l.length = n
  is_ : pkOfB l = p
  cap : m ≤ c ∧ c ≤ maxLen
  row : Rd wr A m (hopT l)
  far : offR (fun k => k = g) A m
  below : Below W.heap.size W wr
  old : W.heap.size ≤ g
theorem At.tt {W wr : World} {g n : Nat} {p : Pk} {a : PkA} {l : List Int} {A : Option Addr} {m c : Nat} (h : At W wr g n p a l A m c) : p.h.tt = l.getD 8 0 := by rw [← h.is_, pkOfB_h]; rfl
theorem At.told {W wr : World} {g n : Nat} {p : Pk} {a : PkA} {l : List Int} {A : Option Addr} {m c : Nat} (h : At W wr g n p a l A m c) :
    (p.h.tt = 1 ∧ errHop l = 23 ∧ m = 0) ∨ (1 < p.h.tt ∧ errHop l = 0 ∧ m = n ∧ hopT l = hopB l ∧ errAll (hopB l) = 0 ∧ Bytes (hopB l) ∧ (hopB l).length = n ∧ pkOfB (hopB l) = less p) := by
  rw [h.tt]
  have hm := h.row.len
  rcases hop_told h.byte h.ok with ⟨h1, h2, h3⟩ | ⟨h1, h2, h3⟩
  · rw [h3] at hm
    exact .inl ⟨h1, h2, by simpa using hm.symm⟩
  · obtain ⟨k1, k2, k3, k4, k5⟩ := hop_ok h.byte h.ok h1
    rw [h3, k3, h.len] at hm
    refine .inr ⟨h1, h2, hm.symm, h3, k1, k2, by rw [k3]; exact h.len, ?_⟩
    rw [k5, h.is_]
    unfold less
    rw [h.tt]
theorem hopT_byte {l : List Int} (hb : Bytes l) (he : errAll l = 0) : Bytes (hopT l) := by
  rcases hop_told hb he with ⟨h1, h2, h3⟩ | ⟨h1, h2, h3⟩
  · rw [h3]; intro x hx; cases hx
  · rw [h3]; exact (hop_ok hb he h1).2.1
set_option maxHeartbeats 4000000 in
theorem walk (hop : HopF) (aw : AwF) (W : World) (v : Value) (hv : BytesIn W v) :
    Calls Tryz.prog 3 #[v] W fun e w' => e = .returned (.bool true) ∧ Below W.heap.size W w' := by
  obtain ⟨A, N, c, D, rfl, hc, hr⟩ := hv
  obtain ⟨n, hmin, hnN, hn1600⟩ := min_nat 1600 N (by omega)
  have hr := hr.take hnN
  obtain ⟨l, ed⟩ : ∃ d, D.take n = d := ⟨_, rfl⟩
  rw [ed] at hr
  have hni : (n : Int) ≤ (c : Int) := by omega
  have hn2 : n ≤ 1600 := by omega
  have hnc : n ≤ c := by omega
  have hn0 : (0 : Int) ≤ (n : Int) := by omega
  have Hr := Lib.hid hr
  have Hc := Lib.hid (And.intro hnc hc.2)
  have Hn2 := Lib.hid hn2
  have Hop := Lib.hid hop
  have Aw := Lib.hid aw
  clear ed hc hr hop aw
  go_enter Tryz.func3, Tryz.ntmps3
  go_upto_region 2 with (fail)
  clear hni hnc hn0 hmin hn2 hnN hn1600
  obtain ⟨k, ek⟩ : ∃ k, errAll l = k := ⟨_, rfl⟩
  have Ek := Lib.hid ek
  clear ek
  try simp only []
  repeat (first | go_values | go_skip | go_guarded | go_step | go_upon | go_back)
  by_cases h0 : k = 0
  case neg =>
    have H0 := Lib.hid h0
    have h0b : (k != 0) = true := by simpa using h0
    refine (parse9_err A n c l k _ Hc.out (by have := Hn2.out; omega) Hr.out Ek.out h0).mono ?_
    clear h0
    rintro e w1 ⟨rfl, hb1⟩
    obtain ⟨w2, ew2⟩ : ∃ v, w1.alloc (.cells #[.int .u8 0, .int .u16 0, .bool false, .int .u8 0, .int .u8 0, .int .u32 0, .int .u32 0, .slice none 0 0, .int .u16 0, .int .u16 0, .int .u32 0, .int .u32 0, .int .u8 0, .int .u16 0, .int .u16 0, .slice none 0 0, .slice none 0 0, .int .u16 0, .int .u16 0, .slice none 0 0, .int .u8 0, .int .u8 0, .int .u32 0, .slice none 0 0] 35) = v := ⟨_, rfl⟩
    have HB2 := Lib.hid (show Below W.heap.size W w2 by rw [← ew2]; exact hb1.alloc hb1.size _)
    have Ew2 := Lib.hid ew2
    clear ew2 hb1
    go_upto_region 3 with (refine wp_store_new 35 (.tmp 3) (.tmp 17) rfl rfl w1 _ _ rfl rfl (by kernel_rfl) rfl (by simp [Value.oneCell']) ?_)
    rw [Ew2.out]
    clear Ew2
    try simp only []
    repeat (first | go_values | go_skip | go_guarded | go_step | go_upon | go_back)
    have hb := hop_bad Ek.out H0.out
    refine (Hop.out A n c l _ [] 0 k Hc.out Hn2.out (Hr.out.below HB2.out) hb.2 rfl hb.1).mono ?_
    clear hb
    rintro e w3 ⟨A3, c3, rfl, ho3, hb3⟩
    have HB3 := Lib.hid (HB2.out.trans (hb3.mono HB2.out.size))
    clear ho3 hb3
    try simp only []
    repeat (first | go_values | go_skip | go_guarded | go_step | go_upon | go_back)
    refine (Aw.out _).mono ?_
    rintro e w4 ⟨rfl, hb4⟩
    have HB4 := Lib.hid (HB3.out.trans (hb4.mono HB3.out.size))
    clear hb4
    try simp only []
    repeat (first | go_values | go_skip | go_guarded | go_step | go_upon | go_back)
    go_ret
    exact ⟨rfl, HB4.out⟩
  subst h0
  obtain ⟨p, ep⟩ : ∃ p, pkOfB l = p := ⟨_, rfl⟩
  have Hp := Lib.hid ep
  have hg := parse9_ok A n c l W Hc.out (by have := Hn2.out; omega) Hr.out Ek.out
  rw [ep] at hg
  clear ep
  refine hg.mono ?_
  clear hg
  rintro e w1 ⟨a, rfl, hp1, hn1, hof1, hb1⟩
  obtain ⟨g, eg⟩ : ∃ g, w1.heap.size = g := ⟨_, rfl⟩
  obtain ⟨w2, ew2⟩ : ∃ v, w1.alloc (.cells #[.int .u8 p.h.to, .int .u16 p.h.id, .bool p.h.df, .int .u8 p.h.tt, .int .u8 p.h.pr, .int .u32 p.h.sr, .int .u32 p.h.ds, .slice a.AH a.nH a.cH, .int .u16 p.s.sp, .int .u16 p.s.dp, .int .u32 p.s.sq, .int .u32 p.s.ak, .int .u8 p.s.fl, .int .u16 p.s.wn, .int .u16 p.s.ug, .slice a.AO a.nO a.cO, .slice a.AD a.nD a.cD, .int .u16 p.u.sp, .int .u16 p.u.dp, .slice a.AU a.nU a.cU, .int .u8 p.m.ty, .int .u8 p.m.cd, .int .u32 p.m.rs, .slice a.AM a.nM a.cM] 35) = v := ⟨_, rfl⟩
  have hb12 : Below w1.heap.size w1 w2 := by rw [← ew2]; exact (Below.refl _ _).alloc (Nat.le_refl _) _
  have HK2 := Lib.hid (show w2.heap[g]? = some (.cells #[.int .u8 p.h.to, .int .u16 p.h.id, .bool p.h.df, .int .u8 p.h.tt, .int .u8 p.h.pr, .int .u32 p.h.sr, .int .u32 p.h.ds, .slice a.AH a.nH a.cH, .int .u16 p.s.sp, .int .u16 p.s.dp, .int .u32 p.s.sq, .int .u32 p.s.ak, .int .u8 p.s.fl, .int .u16 p.s.wn, .int .u16 p.s.ug, .slice a.AO a.nO a.cO, .slice a.AD a.nD a.cD, .int .u16 p.u.sp, .int .u16 p.u.dp, .slice a.AU a.nU a.cU, .int .u8 p.m.ty, .int .u8 p.m.cd, .int .u32 p.m.rs, .slice a.AM a.nM a.cM] 35 (0, 0)) by rw [← ew2, ← eg]; exact heap_alloc_new w1 _)
  have HP2 := Lib.hid (hp1.below hb12)
  have Hoff := Lib.hid (show a.Off (fun k => k = g) from hp1.off.sub (fun k hk => by omega))
  have HnO := Lib.hid hn1
  have HB2 := Lib.hid (below_trans hb1 hb12)
  have Hg := Lib.hid (show W.heap.size ≤ g by rw [← eg]; exact hb1.size)
  have Ew2 := Lib.hid ew2
  have Eg := Lib.hid eg
  clear eg ew2 hb12 hp1 hn1 hof1 hb1
  go_upto_region 3 with (refine wp_store_new 35 (.tmp 3) (.tmp 17) rfl rfl w1 _ _ rfl rfl (by kernel_rfl) rfl (by simp [Value.oneCell']) ?_)
  rw [Ew2.out]
  try rw [Eg.out]
  clear Ew2 Eg
  try simp only []
  repeat (first | go_values | go_skip | go_guarded | go_step | go_upon | go_back)
  obtain ⟨L, eL⟩ : ∃ L, hopT l = L := ⟨_, rfl⟩
  obtain ⟨m, em⟩ : ∃ m, L.length = m := ⟨_, rfl⟩
  obtain ⟨x, ex⟩ : ∃ x, errHop l = x := ⟨_, rfl⟩
  refine (Hop.out A n c l _ L m x Hc.out Hn2.out (Hr.out.below HB2.out) eL em ex).mono ?_
  rintro e w3 ⟨A5, c5, rfl, ho5, hb3⟩
  have hLb : Bytes L := by rw [← eL]; exact hopT_byte Hr.out.byte Ek.out
  have Hx := Lib.hid ex
  have HAt := Lib.hid (show At W w3 g n p a l A5 m c5 from ⟨blk_on HK2.out hb3, HP2.out.below hb3, Hoff.out, HnO.out, Hr.out.byte, Ek.out, Hr.out.len, Hp.out, ⟨ho5.cap, ho5.capMax⟩, by rw [eL]; exact ho5.rd hLb, ho5.off.sub (fun k hk => by subst hk; exact lt_of_block HK2.out), HB2.out.trans (hb3.mono HB2.out.size), Hg.out⟩)
  clear eL em ex ho5 hb3 hLb HK2 HP2 Hoff HnO HB2 Hg Hp Ek Hr Hc
  go_wp2_with fail
  go_loopg [5, 6] p.h.tt.toNat (fun gk s5 s6 wr => ∃ (p : Pk) (a : PkA) (l : List Int) (A5 : Option Addr) (m c5 : Nat) (x : Int), Hid (p.h.tt = (gk : Int)) ∧ s5 = .slice A5 m c5 ∧ s6 = .int .i64 x ∧ Hid (errHop l = x) ∧ Hid (At W wr g n p a l A5 m c5))
  case atStart => exact ⟨p, a, l, A5, m, c5, x, Lib.hid (by have := HAt.out.rd.hn.tt; omega), rfl, rfl, Hx, HAt⟩
  case round =>
    clear HAt Hx
    obtain ⟨p, a, l, A5, m, c5, x, hgk, rfl, rfl, hx, hA⟩ := hrel
    have k3 := (cells24 hA.out.blk).2.2.2.1
    rcases hA.out.told with ⟨h1, h2, h3⟩ | ⟨h1, h2, h3, h4, h5, h6, h7, h8⟩
    · have h1n : ¬ (1 : Int) < p.h.tt := by omega
      obtain rfl : x = 23 := by rw [← hx.out]; exact h2
      subst h3
      clear h1 h2
      try simp only []
      repeat (first | go_values | go_skip | go_guarded | go_step | go_upon | go_back)
      refine (Aw.out _).mono ?_
      rintro e w4 ⟨rfl, hb4⟩
      have HB4 := Lib.hid (hA.out.below.trans (hb4.mono hA.out.below.size))
      clear hb4
      try simp only []
      repeat (first | go_values | go_skip | go_guarded | go_step | go_upon | go_back)
      go_ret
      exact ⟨rfl, HB4.out⟩
    · obtain rfl : x = 0 := by rw [← hx.out]; exact h2
      obtain rfl : m = n := h3
      obtain ⟨q, eq⟩ : ∃ q, less p = q := ⟨_, rfl⟩
      have hrow := hA.out.row
      rw [h4] at hrow
      obtain ⟨l2, el2⟩ : ∃ l2, hopB l = l2 := ⟨_, rfl⟩
      rw [el2] at h5 h6 h7 h8 hrow
      rw [eq] at h8
      have Hq := Lib.hid eq
      have H8 := Lib.hid h8
      have H5 := Lib.hid h5
      have H7 := Lib.hid h7
      have Hrow := Lib.hid hrow
      have H1 := Lib.hid h1
      have hn2 := Hn2.out
      have hg := parse9_ok A5 m c5 l2 wr hA.out.cap (by omega) Hrow.out H5.out
      rw [h8] at hg
      clear h2 h4 h5 h6 h7 h8 el2 eq hrow hx hn2
      try simp only []
      repeat (first | go_values | go_skip | go_guarded | go_step | go_upon | go_back)
      clear k3
      refine hg.mono ?_
      clear hg
      rintro e w6 ⟨b, rfl, hq, hnq, hofq, hb6⟩
      obtain ⟨gq, egq⟩ : ∃ g, w6.heap.size = g := ⟨_, rfl⟩
      obtain ⟨w7, ew7⟩ : ∃ v, w6.alloc (.cells #[.int .u8 q.h.to, .int .u16 q.h.id, .bool q.h.df, .int .u8 q.h.tt, .int .u8 q.h.pr, .int .u32 q.h.sr, .int .u32 q.h.ds, .slice b.AH b.nH b.cH, .int .u16 q.s.sp, .int .u16 q.s.dp, .int .u32 q.s.sq, .int .u32 q.s.ak, .int .u8 q.s.fl, .int .u16 q.s.wn, .int .u16 q.s.ug, .slice b.AO b.nO b.cO, .slice b.AD b.nD b.cD, .int .u16 q.u.sp, .int .u16 q.u.dp, .slice b.AU b.nU b.cU, .int .u8 q.m.ty, .int .u8 q.m.cd, .int .u32 q.m.rs, .slice b.AM b.nM b.cM] 35) = v := ⟨_, rfl⟩
      have hb67 : Below w6.heap.size w6 w7 := by rw [← ew7]; exact (Below.refl _ _).alloc (Nat.le_refl _) _
      have HB7 := Lib.hid (below_trans hb6 hb67)
      have HKq7 := Lib.hid (show w7.heap[gq]? = some (.cells #[.int .u8 q.h.to, .int .u16 q.h.id, .bool q.h.df, .int .u8 q.h.tt, .int .u8 q.h.pr, .int .u32 q.h.sr, .int .u32 q.h.ds, .slice b.AH b.nH b.cH, .int .u16 q.s.sp, .int .u16 q.s.dp, .int .u32 q.s.sq, .int .u32 q.s.ak, .int .u8 q.s.fl, .int .u16 q.s.wn, .int .u16 q.s.ug, .slice b.AO b.nO b.cO, .slice b.AD b.nD b.cD, .int .u16 q.u.sp, .int .u16 q.u.dp, .slice b.AU b.nU b.cU, .int .u8 q.m.ty, .int .u8 q.m.cd, .int .u32 q.m.rs, .slice b.AM b.nM b.cM] 35 (0, 0)) by rw [← ew7, ← egq]; exact heap_alloc_new w6 _)
      have HQ7 := Lib.hid (hq.below hb67)
      have hgw := lt_of_block hA.out.blk
      have Hgq := Lib.hid (show g ≠ gq ∧ g < wr.heap.size ∧ wr.heap.size ≤ gq by have := hb6.size; omega)
      have Hofq := Lib.hid (show b.Off (fun k => k = g) from hofq.sub (fun k hk => by omega))
      have Ew7 := Lib.hid ew7
      have Egq := Lib.hid egq
      clear egq ew7 hb67 hq hnq hofq hb6 hgw
      go_upto_region 8 with (refine wp_store_new 35 (.tmp 7) (.tmp 44) rfl rfl w6 _ _ rfl rfl (by kernel_rfl) rfl (by simp [Value.oneCell']) ?_)
      rw [Ew7.out]
      try rw [Egq.out]
      clear Ew7 Egq
      have k3 := (cells24 (blk_on hA.out.blk HB7.out)).2.2.2.1
      have f3 := blk_free (blk_on hA.out.blk HB7.out) 3
      have hwr : IntKind.u8.wrap (p.h.tt - 1) = p.h.tt - 1 := by have := hA.out.rd.hn.tt; have := H1.out; exact wraps8 _ (by omega) (by omega)
      go_upto_region 9 with (fail)
      clear k3 hwr f3
      obtain ⟨w8, ew8⟩ : ∃ v, w7.setCell ⟨g, 3, none⟩ (.int .u8 (p.h.tt - 1)) = v := ⟨_, rfl⟩
      rw [ew8]
      have hbut : But (fun k => k = g) w7 w8 := by rw [← ew8]; exact (But.refl (fun k => k = g) w7).setCell (p := ⟨g, 3, none⟩) rfl _
      have HK8 := Lib.hid (show w8.heap[g]? = some (.cells #[.int .u8 q.h.to, .int .u16 q.h.id, .bool q.h.df, .int .u8 q.h.tt, .int .u8 q.h.pr, .int .u32 q.h.sr, .int .u32 q.h.ds, .slice a.AH a.nH a.cH, .int .u16 q.s.sp, .int .u16 q.s.dp, .int .u32 q.s.sq, .int .u32 q.s.ak, .int .u8 q.s.fl, .int .u16 q.s.wn, .int .u16 q.s.ug, .slice a.AO a.nO a.cO, .slice a.AD a.nD a.cD, .int .u16 q.u.sp, .int .u16 q.u.dp, .slice a.AU a.nU a.cU, .int .u8 q.m.ty, .int .u8 q.m.cd, .int .u32 q.m.rs, .slice a.AM a.nM a.cM] 35 (0, 0)) by
        rw [← ew8, set_blk (blk_on hA.out.blk HB7.out), ← Hq.out]; rfl)
      have HKq8 := Lib.hid (show w8.heap[gq]? = some (.cells #[.int .u8 q.h.to, .int .u16 q.h.id, .bool q.h.df, .int .u8 q.h.tt, .int .u8 q.h.pr, .int .u32 q.h.sr, .int .u32 q.h.ds, .slice b.AH b.nH b.cH, .int .u16 q.s.sp, .int .u16 q.s.dp, .int .u32 q.s.sq, .int .u32 q.s.ak, .int .u8 q.s.fl, .int .u16 q.s.wn, .int .u16 q.s.ug, .slice b.AO b.nO b.cO, .slice b.AD b.nD b.cD, .int .u16 q.u.sp, .int .u16 q.u.dp, .slice b.AU b.nU b.cU, .int .u8 q.m.ty, .int .u8 q.m.cd, .int .u32 q.m.rs, .slice b.AM b.nM b.cM] 35 (0, 0)) from hbut.blk HKq7.out (fun e => Hgq.out.1 e.symm))
      have HP8 := Lib.hid (show PkRd w8 q a by
        rw [← Hq.out]
        exact (less_rd (hA.out.rd.below HB7.out) (by have := H1.out; omega)).but hbut hA.out.off)
      have HQ8 := Lib.hid (HQ7.out.but hbut Hofq.out)
      have HR8 := Lib.hid ((Hrow.out.below HB7.out).offBut hbut hA.out.far)
      have HB8 := Lib.hid (show Below W.heap.size W w8 from (hA.out.below.trans (HB7.out.mono hA.out.below.size)).trans (hbut.below (B := W.heap.size) (fun k hk => by subst hk; exact hA.out.old) (by have := hA.out.below.size; have := HB7.out.size; omega)))
      clear ew8 hbut HKq7 HQ7 HB7
      try simp only []
      repeat (first | go_values | go_skip | ((fail_if_success (with_reducible refine wpList_row 35 (.tmp 3) rfl ?_ ?_ ?_ ?_ ?_ ?_ ?_ ?_ ?_ ?_ ?_ ?_)); (first | go_step | go_upon | go_back)))
      refine wpList_row 35 (.tmp 3) rfl ?hww g _ _ _ _ HK8.out rfl Tryz.underlying35 rfl (by kernel_rfl) ?_
      case hww => kernel_rfl
      (try simp only [Act.put, List.setIfInBounds_toArray, List.set_cons_zero, List.set_cons_succ])
      try simp only []
      repeat (first | go_values | go_skip | ((fail_if_success (with_reducible refine wpList_row 35 (.tmp 7) rfl ?_ ?_ ?_ ?_ ?_ ?_ ?_ ?_ ?_ ?_ ?_ ?_)); (first | go_step | go_upon | go_back)))
      refine wpList_row 35 (.tmp 7) rfl ?hww gq _ _ _ _ HKq8.out rfl Tryz.underlying35 rfl (by kernel_rfl) ?_
      case hww => kernel_rfl
      (try simp only [Act.put, List.setIfInBounds_toArray, List.set_cons_zero, List.set_cons_succ])
      try simp only []
      repeat (first | go_values | go_skip | go_guarded | go_step | go_upon | go_back)
      refine (same9_any q q a b _ true HP8.out HQ8.out (by have := hA.out.nO; omega) (pkSame_self q)).mono ?_
      rintro e w9 ⟨rfl, hb9⟩
      have HK9 := Lib.hid (blk_on HK8.out hb9)
      have HP9 := Lib.hid (HP8.out.below hb9)
      have HR9 := Lib.hid (HR8.out.below hb9)
      have HB9 := Lib.hid (HB8.out.trans (hb9.mono HB8.out.size))
      clear hb9 HK8 HKq8 HP8 HQ8 HR8 HB8
      try simp only []
      repeat (first | go_values | go_skip | go_guarded | go_step | go_upon | go_back)
      obtain ⟨L, eL⟩ : ∃ L, hopT l2 = L := ⟨_, rfl⟩
      obtain ⟨m2, em⟩ : ∃ m, L.length = m := ⟨_, rfl⟩
      obtain ⟨x, ex⟩ : ∃ x, errHop l2 = x := ⟨_, rfl⟩
      refine (Hop.out A5 m c5 l2 _ L m2 x hA.out.cap Hn2.out HR9.out eL em ex).mono ?_
      rintro e w10 ⟨A6, c6, rfl, ho6, hb10⟩
      have hLb : Bytes L := by rw [← eL]; exact hopT_byte Hrow.out.byte H5.out
      have Hx := Lib.hid ex
      have HAt := Lib.hid (show At W w10 g m q a l2 A6 m2 c6 from ⟨blk_on HK9.out hb10, HP9.out.below hb10, hA.out.off, hA.out.nO, Hrow.out.byte, H5.out, H7.out, H8.out, ⟨ho6.cap, ho6.capMax⟩, by rw [eL]; exact ho6.rd hLb, ho6.off.sub (fun k hk => by subst hk; exact lt_of_block HK9.out), HB9.out.trans (hb10.mono HB9.out.size), hA.out.old⟩)
      have Htt := Lib.hid (show q.h.tt = p.h.tt - 1 by rw [← Hq.out]; rfl)
      clear eL em ex ho6 hb10 hLb HK9 HP9 HR9 HB9
      go_wp2_with fail
      go_roundg (gk - 1)
      case measure => have := hgk.out; have := H1.out; omega
      case rel => exact ⟨q, a, l2, A6, m2, c6, x, Lib.hid (by have := hgk.out; have := H1.out; have := Htt.out; omega), rfl, rfl, Hx, HAt⟩
end Go.Proofs.YtheknmihnkennaaGreat.natHopsW

/-
  culvertlaw15's syn and awake, over what Rewrite tells (stage 15, written ahead).
-/
namespace Go.Proofs.YtheknmihnkennaaGreat
set_option maxRecDepth 10000
open Go.RowKit
set_option linter.unusedSimpArgs false
set_option linter.unusedVariables false

def synS15 : Seg := ⟨4000, 80, 9, 0, 2, 0, 0, [], []⟩
def synP15 : Pk := ⟨ownH 167772162 3221225985 6, synS15, zeroDg, zeroM⟩
def synT15 : Tu := ⟨6, 3325256705, 3221225985, 20000, 80⟩
theorem syn15_1 : errPk synP15 = 0 := by decide +kernel
theorem syn15_2 : (pkB synP15).length = 40 := by decide +kernel
theorem syn15_3 : errRw (pkB synP15) synT15 true = 0 := by decide +kernel
theorem syn15_4 : errAll (rwT (pkB synP15) synT15 true) = 0 := by decide +kernel
theorem syn15_5 : (rwT (pkB synP15) synT15 true).length = 40 := by decide +kernel
theorem syn15_6 : (pkOfB (rwT (pkB synP15) synT15 true)).h.sr = 3325256705 := by decide +kernel
theorem syn15_7 : (pkOfB (rwT (pkB synP15) synT15 true)).s.sp = 20000 := by decide +kernel
theorem syn15_8 : (pkOfB (rwT (pkB synP15) synT15 true)).h.tt = 63 := by decide +kernel
theorem syn15_9 : (pkOfB (rwT (pkB synP15) synT15 true)).s.sq = 9 := by decide +kernel
theorem syn15_b : Bytes (rwT (pkB synP15) synT15 true) := by unfold Bytes; decide +kernel

/-- The SYN's bytes. -/
def SynGot (L : List Int) (w : World) (e : Ending) (w' : World) : Prop := ∃ A c, e = .returned (.slice A 40 c) ∧ (40 ≤ c ∧ c ≤ maxLen) ∧ Rd w' A 40 L ∧ Below w.heap.size w w'
theorem syn15_any (L : List Int) (w : World) (hL : pkB synP15 = L) : Calls Tryz.prog 20 #[] w (SynGot L w) := by
  have HL := Lib.hid hL
  clear hL
  have HC := Lib.hid (show Calls Tryz.prog _ _ w (MadeIs synP15 0 w) from tcp9_any 167772162 3221225985 synS15 none 0 0 [] none 0 0 w (by decide) (by decide) (by decide) (by decide) (by intro l hl; cases hl) ⟨⟨by decide, by decide, by decide, by decide, by decide, by decide, by decide⟩, ⟨Nat.le_refl _, by simp [maxLen]⟩, ⟨Nat.le_refl _, by simp [maxLen]⟩, RdO.nil _ _, trivial, Rd.nil _ _⟩)
  obtain ⟨q, eq⟩ : ∃ q, synP15 = q := ⟨_, rfl⟩
  rw [eq] at HC
  have Eq := Lib.hid eq
  clear eq
  go_enter Tryz.func20, Tryz.ntmps20
  go_wp2_with fail
  refine HC.out.mono ?_
  rintro e w1 ⟨b, rfl, hp, hnO, -, hb1⟩
  have Hp := Lib.hid hp
  have HnO := Lib.hid hnO
  have HB1 := Lib.hid hb1
  clear hp hnO hb1 HC
  go_wp2_with fail
  have hD : b.nD = 0 := by rw [← Hp.out.sr.d.len, ← Eq.out]; rfl
  refine (put9_any q b w1 L 40 0 Hp.out (by have := HnO.out; omega) (by omega) (by rw [← Eq.out]; exact syn15_1) (by rw [← Eq.out]; exact HL.out) (by rw [← HL.out]; exact syn15_2)).mono ?_
  rintro e w2 ⟨A, c, rfl, hc, hr, hb2⟩
  clear hD
  have HB2 := Lib.hid (below_trans HB1.out hb2)
  have Hr := Lib.hid hr
  have Hc := Lib.hid hc
  clear hb2 hr hc Hp HnO HB1 Eq
  go_wp2_with fail
  go_ret
  exact ⟨A, c, rfl, Hc.out, Hr.out, HB2.out⟩
set_option maxHeartbeats 2000000 in
theorem awake15_any (rw_ : RwF) : AwF := by
  intro w
  have Rw := Lib.hid rw_
  clear rw_
  obtain ⟨L, eL⟩ : ∃ L, pkB synP15 = L := ⟨_, rfl⟩
  obtain ⟨L2, eL2⟩ : ∃ L2, rwT L synT15 true = L2 := ⟨_, rfl⟩
  obtain ⟨p, ep⟩ : ∃ p, pkOfB L2 = p := ⟨_, rfl⟩
  have h3 := syn15_3; have h4 := syn15_4; have h5 := syn15_5; have h6 := syn15_6; have h7 := syn15_7; have h8 := syn15_8; have h9 := syn15_9; have hb := syn15_b
  rw [eL] at h3 h4 h5 h6 h7 h8 h9 hb
  rw [eL2] at h4 h5 h6 h7 h8 h9 hb
  rw [ep] at h6 h7 h8 h9
  have H3 := Lib.hid h3; have H4 := Lib.hid h4; have H5 := Lib.hid h5; have HL := Lib.hid eL; have HL2 := Lib.hid eL2; have Hp := Lib.hid ep; have Hby := Lib.hid hb
  have H6 := Lib.hid (show (p.h.sr == 3325256705) = true by simpa using h6)
  have H7 := Lib.hid (show (p.s.sp == 20000) = true by simpa using h7)
  have H8 := Lib.hid (show (p.h.tt == 63) = true by simpa using h8)
  have H9 := Lib.hid (show (p.s.sq == 9) = true by simpa using h9)
  clear h3 h4 h5 h6 h7 h8 h9 eL eL2 ep hb
  go_enter Tryz.func8, Tryz.ntmps8
  go_wp2_with fail
  refine (syn15_any L _ HL.out).mono ?_
  rintro e w1 ⟨A1, c1, rfl, hc1, hr1, hb1⟩
  have Hr1 := Lib.hid hr1
  have Hc1 := Lib.hid hc1
  have HB1 := Lib.hid hb1
  clear hr1 hc1 hb1
  go_wp2_with fail
  refine (Rw.out A1 40 c1 L synT15 true w1 L2 40 0 Hc1.out (by decide) Hr1.out ⟨by decide, by decide, by decide, by decide, by decide⟩ HL2.out H5.out H3.out).mono ?_
  rintro e w2 ⟨A2, c2, rfl, ho2, hb2⟩
  have Hr2 := Lib.hid (ho2.rd Hby.out)
  have Hc2 := Lib.hid (And.intro ho2.cap ho2.capMax)
  have HB2 := Lib.hid (below_trans HB1.out hb2)
  clear ho2 hb2 HB1 Hr1 Hc1
  go_wp2_with fail
  have hg := parse9_ok A2 40 c2 L2 w2 Hc2.out (by decide) Hr2.out H4.out
  rw [Hp.out] at hg
  refine hg.mono ?_
  clear hg
  rintro e w3 ⟨a, rfl, hp, hn, hof, hb3⟩
  obtain ⟨g, eg⟩ : ∃ g, w3.heap.size = g := ⟨_, rfl⟩
  obtain ⟨w4, ew4⟩ : ∃ v, w3.alloc (.cells #[.int .u8 p.h.to, .int .u16 p.h.id, .bool p.h.df, .int .u8 p.h.tt, .int .u8 p.h.pr, .int .u32 p.h.sr, .int .u32 p.h.ds, .slice a.AH a.nH a.cH, .int .u16 p.s.sp, .int .u16 p.s.dp, .int .u32 p.s.sq, .int .u32 p.s.ak, .int .u8 p.s.fl, .int .u16 p.s.wn, .int .u16 p.s.ug, .slice a.AO a.nO a.cO, .slice a.AD a.nD a.cD, .int .u16 p.u.sp, .int .u16 p.u.dp, .slice a.AU a.nU a.cU, .int .u8 p.m.ty, .int .u8 p.m.cd, .int .u32 p.m.rs, .slice a.AM a.nM a.cM] 35) = v := ⟨_, rfl⟩
  have HK4 := Lib.hid (show w4.heap[g]? = some (.cells #[.int .u8 p.h.to, .int .u16 p.h.id, .bool p.h.df, .int .u8 p.h.tt, .int .u8 p.h.pr, .int .u32 p.h.sr, .int .u32 p.h.ds, .slice a.AH a.nH a.cH, .int .u16 p.s.sp, .int .u16 p.s.dp, .int .u32 p.s.sq, .int .u32 p.s.ak, .int .u8 p.s.fl, .int .u16 p.s.wn, .int .u16 p.s.ug, .slice a.AO a.nO a.cO, .slice a.AD a.nD a.cD, .int .u16 p.u.sp, .int .u16 p.u.dp, .slice a.AU a.nU a.cU, .int .u8 p.m.ty, .int .u8 p.m.cd, .int .u32 p.m.rs, .slice a.AM a.nM a.cM] 35 (0, 0)) by rw [← ew4, ← eg]; exact heap_alloc_new w3 _)
  have HB4 := Lib.hid (show Below w.heap.size w w4 by rw [← ew4]; have h := below_trans HB2.out hb3; exact h.alloc h.size _)
  have Ew4 := Lib.hid ew4
  have Eg := Lib.hid eg
  clear eg ew4 hp hn hof hb3 HB2 Hr2 Hc2
  go_upto_region 3 with (refine wp_store_new 35 (.tmp 3) (.tmp 14) rfl rfl w3 _ _ rfl rfl (by kernel_rfl) rfl (by simp [Value.oneCell']) ?_)
  rw [Ew4.out]
  try rw [Eg.out]
  clear Ew4 Eg
  have k3 := (cells24 HK4.out).2.2.2.1
  have k5 := (cells24 HK4.out).2.2.2.2.2.1
  have k8 := (cells24 HK4.out).2.2.2.2.2.2.2.2.1
  have k10 := (cells24 HK4.out).2.2.2.2.2.2.2.2.2.2.1
  have h6 := H6.out
  have h7 := H7.out
  have h8 := H8.out
  have h9 := H9.out
  go_wp2_with fail
  go_ret
  exact ⟨rfl, HB4.out⟩
end Go.Proofs.YtheknmihnkennaaGreat
