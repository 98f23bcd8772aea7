/-
  Texts laid together: UdpParse, UdpLaw, Pkt, IpRef.
-/
import Derived.Test.YtkooehejdfaekaaGreatZM20
import Derived.Deep.CutRange
import Derived.Test.YtkooehejdfaekaaGreatZM19
import Derived.Test.YtkooehejdfaekaaGreatZM04
import Derived.Test.YtkooehejdfaekaaGreatZM03
import Derived.RegionTactic

/-
  The contract of package udp's Parse: what is wrong is told in the document's own order; else the datagram, its data in a row of the call's own.
-/
namespace Go.Proofs.YtkooehejdfaekaaGreat
set_option maxRecDepth 10000
open Go.RowKit

end Go.Proofs.YtkooehejdfaekaaGreat

/-
  What the laws of udp have in common: whether two datagrams have all the same; Parse's error alone; culvertlaw07's awake; what comes in, opened.
-/
namespace Go.Proofs.YtkooehejdfaekaaGreat
set_option maxRecDepth 10000
open Go.RowKit

def dgSame (s t : Dg) : Bool := decide (s.sp = t.sp) && (decide (s.dp = t.dp) && decide (s.d = t.d))
theorem usame_any (s t : Dg) (A : Option Addr) (n c : Nat) (A' : Option Addr) (n' c' : Nat) (w : World) (x : Bool) (h : Rd w A n s.d) (h' : Rd w A' n' t.d) (hx : dgSame s t = x) :
    Calls Tryz.prog 28 #[.agg #[.int .u16 s.sp, .int .u16 s.dp, .slice A n c], .agg #[.int .u16 t.sp, .int .u16 t.dp, .slice A' n' c']] w (BoolIs x w) := by
  obtain ⟨sp, dp, d⟩ := s
  obtain ⟨sp', dp', d'⟩ := t
  simp only at h h' ⊢
  have hb := ((Below.refl w.heap.size w).alloc (Nat.le_refl _) (.cells #[.int .u16 sp, .int .u16 dp, .slice A n c] 31)).alloc (by simp) (.cells #[.int .u16 sp', .int .u16 dp', .slice A' n' c'] 31)
  have H1 := Lib.hid (h.below hb)
  have H2 := Lib.hid (h'.below hb)
  have Hb := Lib.hid hb
  clear h h' hb
  unfold dgSame at hx
  simp only at hx
  by_cases h1 : sp = sp'
  · subst h1
    by_cases h2 : dp = dp'
    · subst h2
      have Hx := Lib.hid (show decide (d = d') = x by simpa using hx)
      clear hx
      skip
      go_enter Tryz.func28, Tryz.ntmps28
      go_wp2_with fail
      (refine (bequal_any A A' n n' c c' d d' _ x H1.out H2.out Hx.out).mono ?_; rintro e w' ⟨rfl, rfl⟩; go_wp2_with fail; go_ret; exact ⟨rfl, Hb.out⟩)
    · have h2b : (dp == dp') = false := by simpa using h2
      have Hx := Lib.hid (show x = false by rw [← hx]; simp [h2])
      clear hx h2
      go_enter Tryz.func28, Tryz.ntmps28
      go_wp2_with fail
      go_ret
      exact ⟨ret_bool (by rw [Hx.out]), Hb.out⟩
  · have h1b : (sp == sp') = false := by simpa using h1
    have Hx := Lib.hid (show x = false by rw [← hx]; simp [h1])
    clear hx h1
    go_enter Tryz.func28, Tryz.ntmps28
    go_wp2_with fail
    go_ret
    exact ⟨ret_bool (by rw [Hx.out]), Hb.out⟩
theorem rusame_any (s t : Dg) (A : Option Addr) (n c : Nat) (A' : Option Addr) (n' c' : Nat) (w : World) (x : Bool) (h : Rd w A n s.d) (h' : Rd w A' n' t.d) (hx : dgSame s t = x) :
    Calls Tryz.prog 34 #[.agg #[.int .u16 s.sp, .int .u16 s.dp, .slice A n c], .agg #[.int .u16 t.sp, .int .u16 t.dp, .slice A' n' c']] w (BoolIs x w) := by
  obtain ⟨sp, dp, d⟩ := s
  obtain ⟨sp', dp', d'⟩ := t
  simp only at h h' ⊢
  have hb := ((Below.refl w.heap.size w).alloc (Nat.le_refl _) (.cells #[.int .u16 sp, .int .u16 dp, .slice A n c] 31)).alloc (by simp) (.cells #[.int .u16 sp', .int .u16 dp', .slice A' n' c'] 31)
  have H1 := Lib.hid (h.below hb)
  have H2 := Lib.hid (h'.below hb)
  have Hb := Lib.hid hb
  clear h h' hb
  unfold dgSame at hx
  simp only at hx
  by_cases h1 : sp = sp'
  · subst h1
    by_cases h2 : dp = dp'
    · subst h2
      have Hx := Lib.hid (show decide (d = d') = x by simpa using hx)
      clear hx
      (have k1 := conv_rd H1.out c; have k2 := conv_rd H2.out c'; have Hse := Lib.hid ((strs_eqB d d' H1.out.byte H2.out.byte).trans Hx.out); clear H1 H2)
      go_enter Tryz.func34, Tryz.ntmps34
      go_wp2_with fail
      (go_ret; exact ⟨ret_bool Hse.out, Hb.out⟩)
    · have h2b : (dp == dp') = false := by simpa using h2
      have Hx := Lib.hid (show x = false by rw [← hx]; simp [h2])
      clear hx h2
      go_enter Tryz.func34, Tryz.ntmps34
      go_wp2_with fail
      go_ret
      exact ⟨ret_bool (by rw [Hx.out]), Hb.out⟩
  · have h1b : (sp == sp') = false := by simpa using h1
    have Hx := Lib.hid (show x = false by rw [← hx]; simp [h1])
    clear hx h1
    go_enter Tryz.func34, Tryz.ntmps34
    go_wp2_with fail
    go_ret
    exact ⟨ret_bool (by rw [Hx.out]), Hb.out⟩

end Go.Proofs.YtkooehejdfaekaaGreat

/-
  Packets (api.Packet): a head, a segment, a datagram, a message, as numbers and lists; how they lie in memory. No function of the program.
-/
namespace Go.Proofs.YtkooehejdfaekaaGreat
set_option maxRecDepth 10000
open Go.RowKit

structure Pk where
  h : Hd
  s : Seg
  u : Dg
  m : Msg
/-- Where the parts' rows lie. -/
structure PkA where
  AH : Option Addr
  nH : Nat
  cH : Nat
  AO : Option Addr
  nO : Nat
  cO : Nat
  os : List OptV
  AD : Option Addr
  nD : Nat
  cD : Nat
  AU : Option Addr
  nU : Nat
  cU : Nat
  AM : Option Addr
  nM : Nat
  cM : Nat
def PkA.none_ : PkA := ⟨none, 0, 0, none, 0, 0, [], none, 0, 0, none, 0, 0, none, 0, 0⟩
structure PkRd (w : World) (p : Pk) (a : PkA) : Prop where
  hn : HdNum p.h
  hc : a.nH ≤ a.cH ∧ a.cH ≤ maxLen
  hr : Rd w a.AH a.nH p.h.o
  sr : SegRd w p.s a.AO a.nO a.cO a.os a.AD a.nD a.cD
  un : DgNum p.u
  uc : a.nU ≤ a.cU ∧ a.cU ≤ maxLen
  ur : Rd w a.AU a.nU p.u.d
  mn : MsgNum p.m
  mc : a.nM ≤ a.cM ∧ a.cM ≤ maxLen
  mr : Rd w a.AM a.nM p.m.d
theorem PkRd.below {w w' : World} {p : Pk} {a : PkA} (h : PkRd w p a) (hb : Below w.heap.size w w') : PkRd w' p a :=
  ⟨h.hn, h.hc, h.hr.below hb, h.sr.below hb, h.un, h.uc, h.ur.below hb, h.mn, h.mc, h.mr.below hb⟩
def zeroDg : Dg := ⟨0, 0, []⟩
def pkSame (p q : Pk) : Bool := hdSame p.h q.h && (segSame p.s q.s && (dgSame p.u q.u && msgSame p.m q.m))
theorem segSame_iff (s t : Seg) : segSame s t = true ↔ s = t := by
  obtain ⟨a, b, c, d, e, f, g, l, k⟩ := s
  obtain ⟨a', b', c', d', e', f', g', l', k'⟩ := t
  simp [segSame, and_assoc]
theorem dgSame_iff (s t : Dg) : dgSame s t = true ↔ s = t := by
  obtain ⟨a, b, c⟩ := s
  obtain ⟨a', b', c'⟩ := t
  simp [dgSame]
theorem msgSame_iff (s t : Msg) : msgSame s t = true ↔ s = t := by
  obtain ⟨a, b, c, d⟩ := s
  obtain ⟨a', b', c', d'⟩ := t
  simp [msgSame]
theorem pkSame_iff (p q : Pk) : pkSame p q = true ↔ p = q := by
  obtain ⟨h, s, u, m⟩ := p
  obtain ⟨h', s', u', m'⟩ := q
  simp [pkSame, hdSame_iff, segSame_iff, dgSame_iff, msgSame_iff]
theorem pkSame_self (p : Pk) : pkSame p p = true := (pkSame_iff p p).2 rfl
/-- A packet of which the Proto's part alone is there. -/
def partP (p : Pk) : Pk := if p.h.pr = 6 then ⟨p.h, p.s, zeroDg, zeroM⟩ else if p.h.pr = 17 then ⟨p.h, zeroSeg, p.u, zeroM⟩ else ⟨p.h, zeroSeg, zeroDg, p.m⟩
def mayP (p : Pk) : Bool := (decide (p.h.pr = 6) || (decide (p.h.pr = 17) || decide (p.h.pr = 1))) && (mayB p.h.tt p.h.o.length && pkSame (partP p) p)
def errLoad (p : Pk) : Int := if p.h.pr = 6 then errS p.s else if p.h.pr = 17 then errUP p.u else errP p.m
def loadB (p : Pk) : List Int := if p.h.pr = 6 then toldB p.h.sr p.h.ds p.s else if p.h.pr = 17 then toldU p.h.sr p.h.ds p.u else toldM p.m
/-- What is wrong with a packet that should be laid; its bytes. -/
def errPk (p : Pk) : Int := if mayP p = true then (if errLoad p = 0 then (if 1500 < 20 + p.h.o.length + (loadB p).length then 3 else 0) else errLoad p) else 1
def pkB (p : Pk) : List Int := if errPk p = 0 then hdB p.h (loadB p) else []
/-- A head of our own. -/
def ownH (sr ds pr : Int) : Hd := ⟨0, 0, true, 64, pr, sr, ds, []⟩
end Go.Proofs.YtkooehejdfaekaaGreat

/-
  The document's own answers for heads (culvertref04): May, Same.
-/
namespace Go.Proofs.YtkooehejdfaekaaGreat
set_option maxRecDepth 10000
open Go.RowKit
set_option linter.unusedSimpArgs false
set_option linter.unusedVariables false

theorem strs_eqH (a b : List Int) (ha : ∀ x ∈ a, 0 ≤ x ∧ x < 256) (hb : ∀ x ∈ b, 0 ≤ x ∧ x < 256) : ((strOfNums a).toList == (strOfNums b).toList) = decide (a = b) := by
  rw [ByteArray.toList_eq, ByteArray.toList_eq]
  by_cases e : a = b
  · subst e; simp
  · rw [beq_eq_false_iff_ne.2 (fun x => e (nums_inj _ _ ha hb (by simpa [strOfNums_data] using x)))]
    simp [e]
theorem rsame4_any (h h' : Hd) (A : Option Addr) (n c : Nat) (A' : Option Addr) (n' c' : Nat) (w : World) (x : Bool) (hr : Rd w A n h.o) (hr' : Rd w A' n' h'.o) (hx : hdSame h h' = x) :
    Calls Tryz.prog 32 #[.agg #[.int .u8 h.to, .int .u16 h.id, .bool h.df, .int .u8 h.tt, .int .u8 h.pr, .int .u32 h.sr, .int .u32 h.ds, .slice A n c], .agg #[.int .u8 h'.to, .int .u16 h'.id, .bool h'.df, .int .u8 h'.tt, .int .u8 h'.pr, .int .u32 h'.sr, .int .u32 h'.ds, .slice A' n' c']] w (BoolIs x w) := by
  obtain ⟨to_, id_, df, tt, pr, sr, ds, o⟩ := h
  obtain ⟨to2, id2, df2, tt2, pr2, sr2, ds2, o2⟩ := h'
  simp only at hr hr' ⊢
  have hb := ((Below.refl w.heap.size w).alloc (Nat.le_refl _) (.cells #[.int .u8 to_, .int .u16 id_, .bool df, .int .u8 tt, .int .u8 pr, .int .u32 sr, .int .u32 ds, .slice A n c] 26)).alloc (by simp) (.cells #[.int .u8 to2, .int .u16 id2, .bool df2, .int .u8 tt2, .int .u8 pr2, .int .u32 sr2, .int .u32 ds2, .slice A' n' c'] 26)
  have H1 := Lib.hid (hr.below hb)
  have H2 := Lib.hid (hr'.below hb)
  have Hb := Lib.hid hb
  clear hr hr' hb
  unfold hdSame at hx
  simp only at hx
  by_cases h1 : to_ = to2
  case neg =>
    have h1b : (to_ == to2) = false := by simpa using h1
    have Hx := Lib.hid (show x = false by rw [← hx]; simp [h1])
    clear hx h1
    go_enter Tryz.func32, Tryz.ntmps32
    go_wp2_with fail
    go_ret
    exact ⟨ret_bool (by rw [Hx.out]), Hb.out⟩
  subst h1
  by_cases h2 : id_ = id2
  case neg =>
    have h2b : (id_ == id2) = false := by simpa using h2
    have Hx := Lib.hid (show x = false by rw [← hx]; simp [h2])
    clear hx h2
    go_enter Tryz.func32, Tryz.ntmps32
    go_wp2_with fail
    go_ret
    exact ⟨ret_bool (by rw [Hx.out]), Hb.out⟩
  subst h2
  by_cases h3 : df = df2
  case neg =>
    have h3b : (df == df2) = false := by simpa using h3
    have Hx := Lib.hid (show x = false by rw [← hx]; simp [h3])
    clear hx h3
    go_enter Tryz.func32, Tryz.ntmps32
    go_wp2_with fail
    go_ret
    exact ⟨ret_bool (by rw [Hx.out]), Hb.out⟩
  subst h3
  by_cases h4 : tt = tt2
  case neg =>
    have h4b : (tt == tt2) = false := by simpa using h4
    have Hx := Lib.hid (show x = false by rw [← hx]; simp [h4])
    clear hx h4
    go_enter Tryz.func32, Tryz.ntmps32
    go_wp2_with fail
    go_ret
    exact ⟨ret_bool (by rw [Hx.out]), Hb.out⟩
  subst h4
  by_cases h5 : pr = pr2
  case neg =>
    have h5b : (pr == pr2) = false := by simpa using h5
    have Hx := Lib.hid (show x = false by rw [← hx]; simp [h5])
    clear hx h5
    go_enter Tryz.func32, Tryz.ntmps32
    go_wp2_with fail
    go_ret
    exact ⟨ret_bool (by rw [Hx.out]), Hb.out⟩
  subst h5
  by_cases h6 : sr = sr2
  case neg =>
    have h6b : (sr == sr2) = false := by simpa using h6
    have Hx := Lib.hid (show x = false by rw [← hx]; simp [h6])
    clear hx h6
    go_enter Tryz.func32, Tryz.ntmps32
    go_wp2_with fail
    go_ret
    exact ⟨ret_bool (by rw [Hx.out]), Hb.out⟩
  subst h6
  by_cases h7 : ds = ds2
  case neg =>
    have h7b : (ds == ds2) = false := by simpa using h7
    have Hx := Lib.hid (show x = false by rw [← hx]; simp [h7])
    clear hx h7
    go_enter Tryz.func32, Tryz.ntmps32
    go_wp2_with fail
    go_ret
    exact ⟨ret_bool (by rw [Hx.out]), Hb.out⟩
  subst h7
  have k1 := conv_rd H1.out c
  have k2 := conv_rd H2.out c'
  have Hse := Lib.hid ((strs_eqH o o2 H1.out.byte H2.out.byte).trans (show decide (o = o2) = x by simpa using hx))
  clear H1 H2 hx
  go_enter Tryz.func32, Tryz.ntmps32
  go_wp2_with fail
  go_ret
  exact ⟨ret_bool Hse.out, Hb.out⟩
end Go.Proofs.YtkooehejdfaekaaGreat
