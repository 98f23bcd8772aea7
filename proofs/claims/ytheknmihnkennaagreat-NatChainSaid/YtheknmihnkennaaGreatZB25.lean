/-
  Texts laid together: PkOff, PkMake, IcmpLaw.
-/
import Derived.Test.YtheknmihnkennaaGreatZB24
import Derived.Test.YtheknmihnkennaaGreatZB13
import Derived.Test.YtheknmihnkennaaGreatZB01
import Derived.Test.YtheknmihnkennaaGreatZB07
import Derived.Test.YtheknmihnkennaaGreatZB21
import Derived.Laws.CopyOwn
import Derived.Test.YtheknmihnkennaaGreatZB09
import Derived.Lib.SmallJoins

/-
  Where a packet's rows do not lie: so that a store into a box leaves the packet as it reads. No function of the program.
-/
namespace Go.Proofs.YtheknmihnkennaaGreat
set_option maxRecDepth 10000
open Go.RowKit

/-- A row of some bytes lies in no block of S. -/
def offR (S : Nat → Prop) (A : Option Addr) (n : Nat) : Prop := ∀ g o, A = some ⟨g, o, none⟩ → 0 < n → ¬ S g
theorem offR.zero (S : Nat → Prop) (A : Option Addr) : offR S A 0 := fun _ _ _ h => absurd h (by omega)
theorem offR.sub {S S' : Nat → Prop} {A : Option Addr} {n : Nat} (h : offR S A n) (hS : ∀ g, S' g → S g) : offR S' A n := fun g o e hn hs => h g o e hn (hS g hs)
theorem OwnB.off {w : World} {B : Nat} {A : Option Addr} {n c : Nat} {l : List Int} (h : OwnB w B A n c l) : offR (fun g => g < B) A n := fun g o e hn hs => by
  subst e
  have := (World.ownsRow.lt h g rfl).1
  omega
theorem OwnO.off {w : World} {B : Nat} {A : Option Addr} {n c : Nat} {os : List OptV} (h : OwnO w B A n c os) : offR (fun g => g < B) A n := fun g o e hn hs => by
  subst e
  have := (World.ownsRow.lt h g rfl).1
  omega
theorem OwnL.off {w : World} {B : Nat} : ∀ {os : List OptV} {ls : List (Int × List Int)}, OwnL w B os ls → ∀ v ∈ os, offR (fun g => g < B) v.A v.n
  | [], _, _, v, hv => by cases hv
  | o :: os, l :: ls, h, v, hv => by
    rcases List.mem_cons.1 hv with rfl | hv
    · exact h.1.2.2.2.off
    · exact OwnL.off h.2 v hv
structure PkA.Off (a : PkA) (S : Nat → Prop) : Prop where
  h : offR S a.AH a.nH
  o : offR S a.AO a.nO
  os : ∀ v ∈ a.os, offR S v.A v.n
  d : offR S a.AD a.nD
  u : offR S a.AU a.nU
  m : offR S a.AM a.nM
theorem PkA.Off.sub {a : PkA} {S S' : Nat → Prop} (h : a.Off S) (hS : ∀ g, S' g → S g) : a.Off S' :=
  ⟨h.h.sub hS, h.o.sub hS, fun v hv => (h.os v hv).sub hS, h.d.sub hS, h.u.sub hS, h.m.sub hS⟩
theorem Rd.off {w : World} {A : Option Addr} {n : Nat} {l : List Int} (h : Rd w A n l) : offR (fun g => w.heap.size ≤ g) A n := fun g o e hn hs => by
  obtain ⟨b, o', e', hlt, _⟩ := h.at_ hn
  rw [e] at e'
  cases e'
  omega
theorem RdO.off {w : World} {A : Option Addr} {n : Nat} {os : List OptV} (h : RdO w A n os) : offR (fun g => w.heap.size ≤ g) A n := fun g o e hn hs => by
  obtain ⟨b, o', e', hlt, _⟩ := h.at_ hn
  rw [e] at e'
  cases e'
  omega
theorem Reads.off {w : World} : ∀ {os : List OptV} {ls : List (Int × List Int)}, Reads w os ls → ∀ v ∈ os, offR (fun g => w.heap.size ≤ g) v.A v.n
  | [], _, _, v, hv => by cases hv
  | o :: os, l :: ls, h, v, hv => by
    rcases List.mem_cons.1 hv with rfl | hv
    · exact h.1.2.2.2.2.off
    · exact Reads.off h.2 v hv
/-- What reads lies in memory that is there. -/
theorem PkRd.off {w : World} {p : Pk} {a : PkA} (h : PkRd w p a) : a.Off (fun g => w.heap.size ≤ g) := ⟨h.hr.off, h.sr.o.off, h.sr.os.off, h.sr.d.off, h.ur.off, h.mr.off⟩
theorem Rd.offBut {S : Nat → Prop} {w w' : World} {A : Option Addr} {n : Nat} {l : List Int} (h : Rd w A n l) (hb : But S w w') (ho : offR S A n) : Rd w' A n l := h.but hb ho
theorem RdO.offBut {S : Nat → Prop} {w w' : World} {A : Option Addr} {n : Nat} {os : List OptV} (h : RdO w A n os) (hb : But S w w') (ho : offR S A n) : RdO w' A n os :=
  ⟨h.len, fun h0 => by
    obtain ⟨g, o, e, hlt, hc⟩ := h.at_ h0
    exact ⟨g, o, e, hb.lt hlt, fun i hi => ⟨by rw [hb.cell (p := ⟨g, o + i * 2, none⟩) hlt (ho g o e h0)]; exact (hc i hi).1, by rw [hb.cell (p := ⟨g, o + (i * 2 + 1), none⟩) hlt (ho g o e h0)]; exact (hc i hi).2⟩⟩⟩
theorem Reads.offBut {S : Nat → Prop} {w w' : World} {os : List OptV} {ls : List (Int × List Int)} (h : Reads w os ls) (hb : But S w w') (ho : ∀ v ∈ os, offR S v.A v.n) : Reads w' os ls :=
  h.but hb (fun o hm b off e hn => ho o hm b off e hn)
theorem PkRd.but {S : Nat → Prop} {w w' : World} {p : Pk} {a : PkA} (h : PkRd w p a) (hb : But S w w') (ho : a.Off S) : PkRd w' p a :=
  ⟨h.hn, h.hc, h.hr.offBut hb ho.h, ⟨h.sr.num, h.sr.oc, h.sr.dc, h.sr.o.offBut hb ho.o, h.sr.os.offBut hb ho.os, h.sr.d.offBut hb ho.d⟩, h.un, h.uc, h.ur.offBut hb ho.u, h.mn, h.mc, h.mr.offBut hb ho.m⟩
end Go.Proofs.YtheknmihnkennaaGreat

/-
  Package packet's Tcp and Icmp: packets of our own, made of a segment or a message, with rows of their own.
-/
namespace Go.Proofs.YtheknmihnkennaaGreat
set_option maxRecDepth 10000
open Go.RowKit
set_option linter.unusedSimpArgs false
set_option linter.unusedVariables false

theorem head9_any (pr sr ds : Int) (w : World) :
    Calls Tryz.prog 85 #[.int .u8 pr, .int .u32 sr, .int .u32 ds] w (fun e w' => e = .returned (.agg #[.int .u8 0, .int .u16 0, .bool true, .int .u8 64, .int .u8 pr, .int .u32 sr, .int .u32 ds, .slice none 0 0]) ∧ Below w.heap.size w w') := by
  go_enter Tryz.func85, Tryz.ntmps85
  go_wp2_with fail
  have hb := (Below.refl w.heap.size w).alloc (Nat.le_refl _) (.cells #[.int .u8 0, .int .u16 0, .bool true, .int .u8 64, .int .u8 pr, .int .u32 sr, .int .u32 ds, .slice none 0 0] 26)
  have hk := heap_alloc_new w (.cells #[.int .u8 0, .int .u16 0, .bool true, .int .u8 64, .int .u8 pr, .int .u32 sr, .int .u32 ds, .slice none 0 0] 26)
  exact bodyPost_ret (results_cell_row rfl _ _ w.heap.size _ _ _ _ rfl hk Tryz.underlying26 rfl (by kernel_rfl)) rfl ⟨rfl, hb⟩

def OptsRow (n : Nat) (os : List OptV) (w : World) (e : Ending) (w' : World) : Prop := ∃ A c, e = .returned (.slice A n c) ∧ OwnO w' w.heap.size A n c os ∧ Below w.heap.size w w'
theorem oclone_any (A : Option Addr) (n c : Nat) (os : List OptV) (w : World) (hn : n ≤ 2000000) (h : RdO w A n os) :
    Calls Tryz.prog 84 #[.slice A n c] w (OptsRow n os w) := by
  have hnil : ∀ W : World, (binOp .eql 27 (.slice A n c) (.slice none 0 0)).run Tryz.prog W = .ok (.bool A.isNone) W := fun W => Lib.run_eql_slice_nil W _ _ A n c 0 0 Tryz.underlying27
  cases A with
  | none =>
    obtain rfl : n = 0 := by
      rcases Nat.eq_zero_or_pos n with h0 | h0
      · exact h0
      · obtain ⟨b, o, e, _⟩ := h.at_ h0; cases e
    have hl : os = [] := List.eq_nil_of_length_eq_zero h.len
    subst hl
    have Ho := Lib.hid (OwnO.nil w w.heap.size)
    clear h
    go_enter Tryz.func84, Tryz.ntmps84
    go_wp2_with fail
    go_ret
    exact ⟨none, 0, rfl, Ho.out, Below.refl _ _⟩
  | some a =>
    have hb := (Below.refl w.heap.size w).alloc (Nat.le_refl _) (.cells #[] 142)
    have Ho := Lib.hid (OwnO.made (w := w.alloc (.cells #[] 142)) (B := w.heap.size) (g := w.heap.size) (cap := 0) (cur := #[]) (heap_alloc_new w _) (Nat.le_refl _) (by simp [maxLen]) rfl)
    have Hr := Lib.hid (h.below hb)
    have Hb := Lib.hid hb
    clear h hb
    go_enter Tryz.func84, Tryz.ntmps84
    go_wp2_with (refine wpList_appO rfl (.tmp 5) (.tmp 6) rfl w.heap.size (some ⟨w.heap.size, 0, none⟩) (some a) 0 0 n c [] os rfl rfl Ho.out Hr.out (by omega) (by simp) ?_; intro A2 c2 w2 hown2 _ hb2 _)
    go_ret
    have h2 := hown2
    rw [Nat.zero_add, List.nil_append] at h2
    exact ⟨A2, c2, by simp, h2, Hb.out.trans hb2⟩

theorem ownB_butA {S : Nat → Prop} {w w' : World} {B : Nat} {A : Option Addr} {n c : Nat} {l : List Int} (h : OwnB w B A n c l) (hb : But S w w') (hS : ∀ k, A = some ⟨k, 0, none⟩ → ¬ S k) : OwnB w' B A n c l := by
  refine ⟨h.1, ?_⟩
  rcases h.2 with h0 | ⟨g, cap, cur, e, hB, hc, hrest⟩
  · exact .inl h0
  · exact .inr ⟨g, cap, cur, e, hB, hb.blk hc (hS g (by injection e)), hrest⟩
/-- Where Tcp's loop stands: the first j options' bytes are copied. -/
structure TcpAt (w wr : World) (z k c2 j : Nat) (A2 : Option Addr) (os cl : List OptV) (ls : List (Int × List Int)) (C Z : Array Value) : Prop where
  own : OwnO wr (z + 2) A2 k c2 (cl ++ os.drop j)
  cln : OwnL wr (z + 2) cl (ls.take j)
  len : cl.length = j
  blk : wr.heap[z]? = some (.cells C 29 (0, 0))
  zero : wr.heap[z + 1]? = some (.cells Z 35 (0, 0))
  below : Below w.heap.size w wr
  size : z + 2 ≤ wr.heap.size
theorem TcpAt.on {w wr w' : World} {z k c2 j : Nat} {A2 : Option Addr} {os cl : List OptV} {ls : List (Int × List Int)} {C Z : Array Value} (h : TcpAt w wr z k c2 j A2 os cl ls C Z) (hz : w.heap.size = z) (hb : Below wr.heap.size wr w') : TcpAt w w' z k c2 j A2 os cl ls C Z :=
  ⟨h.own.on hb, h.cln.on hb, h.len, blk_on h.blk hb, blk_on h.zero hb, h.below.trans (hb.mono (by have := h.size; omega)), by have := h.size; have := hb.size; omega⟩
theorem tail_get (cl os : List OptV) (j : Nat) (hl : cl.length = j) : (cl ++ os.drop j).getD j .none = os.getD j .none := by
  simp [List.getD, List.getElem?_append, hl]
theorem tail_set (cl os : List OptV) (j : Nat) (hl : cl.length = j) (h : j < os.length) (v : OptV) : (cl ++ os.drop j).set j v = (cl ++ [v]) ++ os.drop (j + 1) := by
  rw [List.set_append_right _ _ (by omega), hl, Nat.sub_self, List.drop_eq_getElem_cons h, List.set_cons_zero, List.append_assoc]
  rfl
theorem take_snoc_opt (ls : List (Int × List Int)) (j : Nat) (h : j < ls.length) : ls.take (j + 1) = ls.take j ++ [ls.getD j (0, [])] := by
  rw [List.take_succ_eq_append_getElem h]; simp [List.getD, List.getElem?_eq_getElem h]
theorem TcpAt.step {w w4 : World} {z k c2 j g n5 c5 B5 : Nat} {os cl : List OptV} {ls : List (Int × List Int)} {C Z : Array Value} {A5 : Option Addr} {kd : Int} {l : List Int} (h : TcpAt w w4 z k c2 j (some ⟨g, 0, none⟩) os cl ls C Z) (hz : w.heap.size = z) (hg : z + 2 ≤ g) (hk : os.length = k) (hkl : ls.length = k) (hj : j < k)
    (ho : (os.getD j .none).kind = kd) (hl : ls.getD j (0, []) = (kd, l)) (hkb : 0 ≤ kd ∧ kd < 256) (hlb : ∀ x ∈ l, 0 ≤ x ∧ x < 256) (h5 : OwnB w4 B5 A5 n5 c5 l) (hB : z + 2 ≤ B5) :
    TcpAt w (w4.setCell ⟨g, j * 2 + 1, none⟩ (.slice A5 n5 c5)) z k c2 (j + 1) (some ⟨g, 0, none⟩) os (cl ++ [⟨kd, A5, n5, c5⟩]) ls C Z := by
  have h2 := h.own.set_ j hj A5 n5 c5
  rw [tail_get cl os j h.len, tail_set cl os j h.len (by omega), ho] at h2
  have hbut : But (fun k => k = g) w4 (w4.setCell ⟨g, j * 2 + 1, none⟩ (.slice A5 n5 c5)) := (But.refl (fun k => k = g) w4).setCell (p := ⟨g, j * 2 + 1, none⟩) rfl _
  have hap : ∀ (n c : Nat) (l : List Int) (B k : Nat), OwnB w4 B (some ⟨k, 0, none⟩) n c l → ¬ k = g := fun n c l B k hh e => own_apart hh h.own ⟨⟨g, 0, none⟩, rfl, e.symm⟩
  refine ⟨h2, ?_, by simp [h.len], (Below.heap_setCell _ ⟨g, j * 2 + 1, none⟩ _ z (show z ≠ g by omega)).trans h.blk, (Below.heap_setCell _ ⟨g, j * 2 + 1, none⟩ _ (z + 1) (show z + 1 ≠ g by omega)).trans h.zero, h.below.setCell (p := ⟨g, j * 2 + 1, none⟩) (show w.heap.size ≤ g by omega) _, by simpa [World.setCell] using h.size⟩
  rw [take_snoc_opt ls j (by omega), hl]
  refine (h.cln.but hbut (fun n c l k hh => hap n c l _ k hh)).snoc ⟨⟨rfl, hkb, hlb, ?_⟩, trivial⟩
  exact ownB_butA (h5.mono hB) hbut (fun k hh => hap n5 c5 l B5 k (hh ▸ h5))
theorem late_free {w : World} {z : Nat} {C : Array Value} {t : TypeId} (h : w.heap[z]? = some (.cells C t (0, 0))) (k : Nat) : w.frozen? ⟨z, k, none⟩ = false := by simp [World.frozen?, h]
def MadeIs (q : Pk) (nO : Nat) (w : World) (e : Ending) (w' : World) : Prop := ∃ b : PkA, e = .returned (.agg #[.int .u8 q.h.to, .int .u16 q.h.id, .bool q.h.df, .int .u8 q.h.tt, .int .u8 q.h.pr, .int .u32 q.h.sr, .int .u32 q.h.ds, .slice b.AH b.nH b.cH, .int .u16 q.s.sp, .int .u16 q.s.dp, .int .u32 q.s.sq, .int .u32 q.s.ak, .int .u8 q.s.fl, .int .u16 q.s.wn, .int .u16 q.s.ug, .slice b.AO b.nO b.cO, .slice b.AD b.nD b.cD, .int .u16 q.u.sp, .int .u16 q.u.dp, .slice b.AU b.nU b.cU, .int .u8 q.m.ty, .int .u8 q.m.cd, .int .u32 q.m.rs, .slice b.AM b.nM b.cM]) ∧ PkRd w' q b ∧ b.nO = nO ∧ b.Off (fun g => g < w.heap.size) ∧ Below w.heap.size w w'
theorem own_num {sr ds pr : Int} (hs : 0 ≤ sr ∧ sr < 4294967296) (hd : 0 ≤ ds ∧ ds < 4294967296) (hp : 0 ≤ pr ∧ pr < 256) : HdNum (ownH sr ds pr) :=
  ⟨by simp [ownH], by simp [ownH], by simp [ownH], hp, hs, hd⟩
theorem madeT {w' : World} {sr ds : Int} {s : Seg} {AO AD : Option Addr} {nO cO nD cD B B' : Nat} {os : List OptV} (hs : 0 ≤ sr ∧ sr < 4294967296) (hd : 0 ≤ ds ∧ ds < 4294967296) (hm : SegNum s) (hby : ∀ x ∈ s.d, 0 ≤ x ∧ x < 256) (ho : OwnO w' B AO nO cO os) (hl : Reads w' os s.os) (hdd : OwnB w' B' AD nD cD s.d) :
    PkRd w' ⟨ownH sr ds 6, s, zeroDg, zeroM⟩ ⟨none, 0, 0, AO, nO, cO, os, AD, nD, cD, none, 0, 0, none, 0, 0⟩ :=
  ⟨own_num hs hd (by decide), ⟨Nat.le_refl _, by simp [maxLen]⟩, Rd.nil _ _, ⟨hm, ⟨ho.cap, ho.capMax⟩, ⟨hdd.cap, hdd.capMax⟩, ho.rd, hl, hdd.rd hby⟩, zeroDg_num, ⟨Nat.le_refl _, by simp [maxLen]⟩, Rd.nil _ _, zeroM_num, ⟨Nat.le_refl _, by simp [maxLen]⟩, Rd.nil _ _⟩
theorem cells9 {w : World} {g : Nat} {v0 v1 v2 v3 v4 v5 v6 v7 v8 : Value} {t : TypeId} (h : w.heap[g]? = some (.cells #[v0, v1, v2, v3, v4, v5, v6, v7, v8] t (0, 0))) : w.cell? ⟨g, 0, none⟩ = some v0 ∧ w.cell? ⟨g, 1, none⟩ = some v1 ∧ w.cell? ⟨g, 2, none⟩ = some v2 ∧ w.cell? ⟨g, 3, none⟩ = some v3 ∧ w.cell? ⟨g, 4, none⟩ = some v4 ∧ w.cell? ⟨g, 5, none⟩ = some v5 ∧ w.cell? ⟨g, 6, none⟩ = some v6 ∧ w.cell? ⟨g, 7, none⟩ = some v7 ∧ w.cell? ⟨g, 8, none⟩ = some v8 := by
  refine ⟨?_, ?_, ?_, ?_, ?_, ?_, ?_, ?_, ?_⟩ <;> (rw [blk_cell h]; rfl)
set_option maxHeartbeats 4000000 in
theorem tcp9_any (sr ds : Int) (s : Seg) (AO : Option Addr) (nO cO : Nat) (oss : List OptV) (AD : Option Addr) (nD cD : Nat) (w : World) (hs : 0 ≤ sr ∧ sr < 4294967296) (hd : 0 ≤ ds ∧ ds < 4294967296) (hn : nO ≤ 2000000) (hnD : nD ≤ 140737488355328) (hol : ∀ l ∈ s.os, l.2.length ≤ 140737488355328) (hr : SegRd w s AO nO cO oss AD nD cD) :
    Calls Tryz.prog 52 #[.int .u32 sr, .int .u32 ds, .agg #[.int .u16 s.sp, .int .u16 s.dp, .int .u32 s.sq, .int .u32 s.ak, .int .u8 s.fl, .int .u16 s.wn, .int .u16 s.ug, .slice AO nO cO, .slice AD nD cD]] w (MadeIs ⟨ownH sr ds 6, s, zeroDg, zeroM⟩ nO w) := by
  obtain ⟨z, hz⟩ : ∃ z, w.heap.size = z := ⟨_, rfl⟩
  obtain ⟨w0, ew⟩ : ∃ w0, (w.alloc (.cells #[.int .u16 s.sp, .int .u16 s.dp, .int .u32 s.sq, .int .u32 s.ak, .int .u8 s.fl, .int .u16 s.wn, .int .u16 s.ug, .slice AO nO cO, .slice AD nD cD] 29)).alloc (.cells #[.int .u8 0, .int .u16 0, .bool false, .int .u8 0, .int .u8 0, .int .u32 0, .int .u32 0, .slice none 0 0, .int .u16 0, .int .u16 0, .int .u32 0, .int .u32 0, .int .u8 0, .int .u16 0, .int .u16 0, .slice none 0 0, .slice none 0 0, .int .u16 0, .int .u16 0, .slice none 0 0, .int .u8 0, .int .u8 0, .int .u32 0, .slice none 0 0] 35) = w0 := ⟨_, rfl⟩
  have hb0 : Below w.heap.size w w0 := by rw [← ew]; exact ((Below.refl _ _).alloc (Nat.le_refl _) _).alloc (by simp) _
  have hk0 : w0.heap[z]? = some (.cells #[.int .u16 s.sp, .int .u16 s.dp, .int .u32 s.sq, .int .u32 s.ak, .int .u8 s.fl, .int .u16 s.wn, .int .u16 s.ug, .slice AO nO cO, .slice AD nD cD] 29 (0, 0)) := by rw [← ew, Below.heap_alloc _ _ _ (by simp [hz]), ← hz]; exact heap_alloc_new w _
  have hk1 : w0.heap[z + 1]? = some (.cells #[.int .u8 0, .int .u16 0, .bool false, .int .u8 0, .int .u8 0, .int .u32 0, .int .u32 0, .slice none 0 0, .int .u16 0, .int .u16 0, .int .u32 0, .int .u32 0, .int .u8 0, .int .u16 0, .int .u16 0, .slice none 0 0, .slice none 0 0, .int .u16 0, .int .u16 0, .slice none 0 0, .int .u8 0, .int .u8 0, .int .u32 0, .slice none 0 0] 35 (0, 0)) := by
    rw [← ew, ← hz]; simpa using heap_alloc_new (w.alloc (.cells #[.int .u16 s.sp, .int .u16 s.dp, .int .u32 s.sq, .int .u32 s.ak, .int .u8 s.fl, .int .u16 s.wn, .int .u16 s.ug, .slice AO nO cO, .slice AD nD cD] 29)) (.cells #[.int .u8 0, .int .u16 0, .bool false, .int .u8 0, .int .u8 0, .int .u32 0, .int .u32 0, .slice none 0 0, .int .u16 0, .int .u16 0, .int .u32 0, .int .u32 0, .int .u8 0, .int .u16 0, .int .u16 0, .slice none 0 0, .slice none 0 0, .int .u16 0, .int .u16 0, .slice none 0 0, .int .u8 0, .int .u8 0, .int .u32 0, .slice none 0 0] 35)
  have Hs0 := Lib.hid (show w0.heap.size = z + 2 by rw [← ew, ← hz]; simp)
  have HR := Lib.hid hr
  have HC := Lib.hid (oclone_any AO nO cO oss w0 hn (hr.o.below hb0))
  have Hb0 := Lib.hid hb0
  have Hew := Lib.hid ew
  have Hz := Lib.hid hz
  have HK0 := Lib.hid hk0
  have HK1 := Lib.hid hk1
  have Hs := Lib.hid hs
  have Hd := Lib.hid hd
  have Hn := Lib.hid hn
  have HnD := Lib.hid hnD
  have Hol := Lib.hid hol
  clear hz ew hb0 hk0 hk1 hr hn hs hd hnD hol
  have c7 := (cells9 HK0.out).2.2.2.2.2.2.2.1
  go_enter Tryz.func52, Tryz.ntmps52
  go_upto_region 1 with (fail)
  rw [Hew.out]
  try rw [Hz.out]
  go_wp2_with fail
  refine HC.out.mono ?_
  rintro e w1 ⟨A2, c2, rfl, ho1, hb1⟩
  have hk1 := blk_on HK0.out hb1
  have hz1 := blk_on HK1.out hb1
  clear c7 HC
  have Ho1 := Lib.hid ho1
  have Hb1 := Lib.hid hb1
  clear ho1 hb1
  have c7 := (cells9 hk1).2.2.2.2.2.2.2.1
  have f7 := late_free hk1 7
  have hk2 := setCell_block (i := 7) hk1 (.slice A2 nO c2)
  simp only [Array.set!, List.setIfInBounds_toArray, List.set_cons_succ, List.set_cons_zero] at hk2
  have hz2 := (Below.heap_setCell w1 ⟨z, 7, none⟩ (.slice A2 nO c2) (z + 1) (by simp)).trans hz1
  have ho2 : OwnO (w1.setCell ⟨z, 7, none⟩ (.slice A2 nO c2)) (z + 2) A2 nO c2 oss := by
    refine (Ho1.out.mono (by rw [Hs0.out]; exact Nat.le_refl _)).but ((But.refl (fun k => k = z) w1).setCell (p := ⟨z, 7, none⟩) rfl _) (fun k hk e => ?_)
    have := (World.ownsRow.lt (Ho1.out.mono (B' := z + 2) (by rw [Hs0.out]; exact Nat.le_refl _)) k (by rw [hk]; rfl)).1
    omega
  have hb2 : Below w.heap.size w (w1.setCell ⟨z, 7, none⟩ (.slice A2 nO c2)) := (below_trans Hb0.out Hb1.out).setCell (p := ⟨z, 7, none⟩) (by rw [Hz.out]; exact Nat.le_refl _) _
  have hs2 : z + 2 ≤ (w1.setCell ⟨z, 7, none⟩ (.slice A2 nO c2)).heap.size := by have := Hb1.out.size; rw [Hs0.out] at this; simpa [World.setCell] using this
  have c7' := (cells9 hk2).2.2.2.2.2.2.2.1
  obtain ⟨C, eC⟩ : ∃ C : Array Value, #[.int .u16 s.sp, .int .u16 s.dp, .int .u32 s.sq, .int .u32 s.ak, .int .u8 s.fl, .int .u16 s.wn, .int .u16 s.ug, .slice A2 nO c2, .slice AD nD cD] = C := ⟨_, rfl⟩
  obtain ⟨Z, eZ⟩ : ∃ Z : Array Value, #[.int .u8 0, .int .u16 0, .bool false, .int .u8 0, .int .u8 0, .int .u32 0, .int .u32 0, .slice none 0 0, .int .u16 0, .int .u16 0, .int .u32 0, .int .u32 0, .int .u8 0, .int .u16 0, .int .u16 0, .slice none 0 0, .slice none 0 0, .int .u16 0, .int .u16 0, .slice none 0 0, .int .u8 0, .int .u8 0, .int .u32 0, .slice none 0 0] = Z := ⟨_, rfl⟩
  have Hlo := Lib.hid HR.out.o.len
  have Hlk := Lib.hid (show s.os.length = nO by rw [← HR.out.os.len]; exact HR.out.o.len)
  have HF := Lib.hid (TcpAt.mk (w := w) (j := 0) (os := oss) (cl := []) (ls := s.os) ho2 trivial rfl hk2 hz2 hb2 hs2)
  rw [eC, eZ] at HF
  have EC := Lib.hid eC
  have EZ := Lib.hid eZ
  clear hk1 hz1 hk2 hz2 ho2 hb2 Ho1 Hb1 HK0 HK1 Hb0 eC eZ hs2
  go_upto_region 2 with (fail)
  clear c7 f7
  obtain ⟨w2, ew2⟩ : ∃ v, w1.setCell ⟨z, 7, none⟩ (.slice A2 nO c2) = v := ⟨_, rfl⟩
  rw [ew2] at HF c7' ⊢
  clear ew2
  go_wp2_with fail
  clear c7'
  go_loopg [16] nO (fun gk i wr => ∃ (j : Nat) (cl : List OptV), Hid (gk + j = nO) ∧ j ≤ nO ∧ i = .int .i64 (j : Int) ∧ Hid (TcpAt w wr z nO c2 j A2 oss cl s.os C Z))
  case atStart => exact ⟨0, [], rfl, Nat.zero_le _, rfl, HF⟩
  case round =>
    obtain ⟨j, cl, hgk, hj, rfl, hF⟩ := hrel
    by_cases hjk : j < nO
    · obtain ⟨g, eA, hgB, hgl⟩ := hF.out.own.addr (by omega)
      have HeA := Lib.hid eA
      have hF1 : TcpAt w wr z nO c2 j (some ⟨g, 0, none⟩) oss cl s.os C Z := by have h := hF.out; rw [eA] at h; exact h
      have hix := hF1.own.index hjk
      obtain ⟨o, eo⟩ : ∃ o, oss.getD j .none = o := ⟨_, rfl⟩
      obtain ⟨l, el⟩ : ∃ l, s.os.getD j (0, []) = l := ⟨_, rfl⟩
      have hat := (HR.out.os.below (w := w) hF1.below).get j (by have := Hlo.out; omega)
      rw [eo, el] at hat
      obtain ⟨kd, Ao, no, co⟩ := o
      obtain ⟨kl, l⟩ := l
      obtain ⟨rfl, hkb, hnc, hcm, hrd⟩ := hat
      simp only at hkb hnc hcm hrd eo el
      have hno : no ≤ 140737488355328 := by
        rw [← hrd.len]
        refine Hol.out (kd, l) ?_
        rw [← el]
        have := Hlk.out
        simp only [List.getD, List.getElem?_eq_getElem (show j < s.os.length by omega), Option.getD_some]
        exact List.getElem_mem _
      rw [tail_get cl oss j hF1.len, eo] at hix
      obtain ⟨hrun, hcell, hcel2, hfz⟩ := hix
      simp only at hcell hcel2
      have hrunA : ∀ W : World, (Instr.indexAt 27 (.slice A2 nO c2) (.int .i64 (j : Int))).run Tryz.prog W = .ok (.pointer (some ⟨g, j * 2, none⟩)) W := by rw [eA]; exact hrun
      have Hrun := Lib.hid hrunA
      have HF1 := Lib.hid hF1
      have Hno := Lib.hid hno
      have Hjk := Lib.hid hjk
      have Hrd := Lib.hid hrd
      have Hel := Lib.hid el
      have Heo := Lib.hid (show (oss.getD j .none).kind = kd by rw [eo])
      have Hkb := Lib.hid hkb
      clear hrun hF1 hno hrd el eo hnc hcm hfz eA hkb
      go_upto_region 5 with (fail)
      obtain ⟨w4, ew4⟩ : ∃ v, wr.alloc (.cells #[.int .u8 kd, .slice Ao no co] 142) = v := ⟨_, rfl⟩
      have hk4 : w4.heap[wr.heap.size]? = some (.cells #[.int .u8 kd, .slice Ao no co] 142 (0, 0)) := by rw [← ew4]; exact heap_alloc_new wr _
      have hb4 : Below wr.heap.size wr w4 := by rw [← ew4]; exact (Below.refl _ _).alloc (Nat.le_refl _) _
      rw [ew4]
      have HSd := Lib.hid (show ∀ w', Below w4.heap.size w4 w' → w'.cell? ⟨z, 7, none⟩ = some (.slice A2 nO c2) ∧ w'.cell? ⟨wr.heap.size, 1, none⟩ = some (.slice Ao no co) from fun w' hb => by
        have h1 := (HF1.out.on Hz.out (below_trans hb4 hb)).blk
        rw [← EC.out] at h1
        exact ⟨(cells9 h1).2.2.2.2.2.2.2.1, by rw [blk_cell (blk_on hk4 hb)]; rfl⟩)
      have HSs := Lib.hid (show ∀ w', Below w4.heap.size w4 w' → ∀ v, (w'.setCell ⟨g, j * 2 + 1, none⟩ v).cell? ⟨z, 7, none⟩ = some (.slice A2 nO c2) ∧ (w'.setCell ⟨g, j * 2 + 1, none⟩ v).cell? ⟨wr.heap.size, 1, none⟩ = some (.slice Ao no co) from fun w' hb v => by
        have h1 := (HF1.out.on Hz.out (below_trans hb4 hb)).blk
        rw [← EC.out] at h1
        have h2 := (Below.heap_setCell w' ⟨g, j * 2 + 1, none⟩ v z (show z ≠ g by omega)).trans h1
        have h3 := (Below.heap_setCell w' ⟨g, j * 2 + 1, none⟩ v wr.heap.size (show wr.heap.size ≠ g by omega)).trans (blk_on hk4 hb)
        exact ⟨(cells9 h2).2.2.2.2.2.2.2.1, by rw [blk_cell h3]; rfl⟩)
      have Hb4 := Lib.hid hb4
      have HBd := Lib.hid (Below.drew (Below.refl w4.heap.size w4))
      clear hk4 hb4
      clear ew4 hcell hcel2 hrunA
      refine wp_region_held_drew (S := fun w' => w'.cell? ⟨z, 7, none⟩ = some (.slice A2 nO c2) ∧ w'.cell? ⟨wr.heap.size, 1, none⟩ = some (.slice Ao no co)) (by kernel_rfl) (HSd.out _ HBd.out) (fun hHeld => ?_)
      obtain ⟨wd, ewd⟩ : ∃ wd, w4.drew = wd := ⟨_, rfl⟩
      rw [ewd] at HBd hHeld ⊢
      clear ewd
      refine tk 0 ?_ rfl ?_ ?_
      rotate_left
      · intro w' hSw; (go_simp <;> (with_reducible rfl))
      try simp only [Act.put, putL]
      refine tk 1 ?_ rfl ?_ ?_
      rotate_left
      · intro w' hSw; (go_simp <;> (with_reducible rfl))
      try simp only [Act.put, putL]
      refine tk 2 ?_ rfl ?_ ?_
      rotate_left
      · intro w' hSw; (go_simp <;> (with_reducible rfl))
      try simp only [Act.put, putL]
      refine tk 3 ?_ rfl ?_ ?_
      rotate_left
      · intro w' hSw; (go_simp <;> (with_reducible rfl))
      try simp only [Act.put, putL]
      refine tk 4 ?_ rfl ?_ ?_
      rotate_left
      · intro w' hSw; (go_simp <;> (with_reducible rfl))
      try simp only [Act.put, putL]
      refine tkC 5 rfl (fun K hK => ?_)
      go_simp
      (refine (bclone_all Ao no co l _ Hno.out (Hrd.out.below (below_trans Hb4.out HBd.out))).mono ?_; rintro e w5 ⟨A5, c5, rfl, -, -, ho5, hb5⟩; have HO5 := Lib.hid (ho5.mono (B' := z + 2) (by have := HBd.out.size; have := Hb4.out.size; have := HF1.out.size; omega)); have HB5 := Lib.hid (below_trans HBd.out hb5); clear ho5 hb5)
      refine hK.out _ _ ?_ (fun hHeld => ?_)
      · exact (HSd.out _ HB5.out)
      clear hK K
      try simp only [Act.put, putL]
      have HF5 := Lib.hid (HF1.out.on Hz.out (below_trans Hb4.out HB5.out))
      have cl5 := ((HF5.out.own.index Hjk.out)).2.2.1
      have fl5 := (HF5.out.own.index Hjk.out).2.2.2 (j * 2 + 1)
      have hrun := Hrun.out
      refine tk 6 ?_ rfl ?_ ?_
      rotate_left
      · intro w' hSw; (go_simp <;> (with_reducible rfl))
      try simp only [Act.put, putL]
      refine tk 7 ?_ rfl ?_ ?_
      rotate_left
      · intro w' hSw; (go_simp <;> (with_reducible rfl))
      try simp only [Act.put, putL]
      refine tkC 8 rfl (fun K hK => ?_)
      go_simp
      skip
      refine hK.out _ _ ?_ (fun hHeld => ?_)
      · exact (HSs.out _ HB5.out _)
      clear hK K
      try simp only [Act.put, putL]
      refine wpAnyH_done (by kernel_rfl) ?_ _
      clear cl5 fl5 hrun
      have hnb := Hn.out
      have hjk := Hjk.out
      go_wp2_with fail
      go_roundg (gk - 1)
      case measure => have := hgk.out; have := Hjk.out; omega
      case rel => exact ⟨j + 1, cl ++ [⟨kd, A5, no, c5⟩], by have := hgk.out; have := Hjk.out; show Hid (gk - 1 + (j + 1) = _); exact Lib.hid (by omega), by have := Hjk.out; omega, by have := Hn.out; have := Hjk.out; go_num, Lib.hid (by rw [HeA.out]; exact HF5.out.step Hz.out hgB Hlo.out Hlk.out Hjk.out Heo.out Hel.out Hkb.out Hrd.out.byte HO5.out (Nat.le_refl _))⟩
    · obtain rfl : j = nO := by omega
      have hcl := hF.out.cln
      rw [List.take_of_length_le (by have := Hlk.out; omega)] at hcl
      have hown := hF.out.own
      rw [List.drop_eq_nil_of_le (by have := Hlo.out; omega), List.append_nil] at hown
      have hblk := hF.out.blk
      have hzero := hF.out.zero
      rw [← EC.out] at hblk
      rw [← EZ.out] at hzero
      have HO := Lib.hid hown
      have HL := Lib.hid hcl
      have HKr := Lib.hid hblk
      have HZr := Lib.hid hzero
      have HBr := Lib.hid hF.out.below
      have Hsr := Lib.hid hF.out.size
      clear hF hcl hown hblk hzero hgk EC EZ hjk hj
      have c8 := (cells9 HKr.out).2.2.2.2.2.2.2.2
      go_wp2_with fail
      refine (bclone_all AD nD cD s.d _ HnD.out (HR.out.d.below HBr.out)).mono ?_
      rintro e w5 ⟨A5, c5, rfl, -, -, ho5, hb5⟩
      have hk5 := blk_on HKr.out hb5
      have hz5 := blk_on HZr.out hb5
      have Ho5 := Lib.hid (ho5.mono Hsr.out)
      have HO5 := Lib.hid (HO.out.on hb5)
      have HL5 := Lib.hid (HL.out.on hb5)
      have HB5 := Lib.hid (HBr.out.trans (hb5.mono HBr.out.size))
      clear c8 ho5 hb5 HO HL HKr HZr HBr Hsr
      have c8 := (cells9 hk5).2.2.2.2.2.2.2.2
      have f8 := late_free hk5 8
      have hk6 := setCell_block (i := 8) hk5 (.slice A5 nD c5)
      simp only [Array.set!, List.setIfInBounds_toArray, List.set_cons_succ, List.set_cons_zero] at hk6
      have hz6 := (Below.heap_setCell w5 ⟨z, 8, none⟩ (.slice A5 nD c5) (z + 1) (by simp)).trans hz5
      have hbut : But (fun k => k = z) w5 (w5.setCell ⟨z, 8, none⟩ (.slice A5 nD c5)) := (But.refl (fun k => k = z) w5).setCell (p := ⟨z, 8, none⟩) rfl _
      have HO6 := Lib.hid (HO5.out.but hbut (fun k hk e => by have := (World.ownsRow.lt HO5.out k (by rw [hk]; rfl)).1; omega))
      have HL6 := Lib.hid (HL5.out.but hbut (fun n c l k h2 e => by have := h2.at_ rfl; omega))
      have Ho6 := Lib.hid (Ho5.out.but hbut (fun k hk e => by omega))
      have HB6 := Lib.hid (HB5.out.setCell (p := ⟨z, 8, none⟩) (by rw [Hz.out]; exact Nat.le_refl _) (.slice A5 nD c5))
      have HK6 := Lib.hid hk6
      have HZ6 := Lib.hid hz6
      clear hk5 hz5 hk6 hz6 hbut Ho5 HO5 HL5 HB5
      go_upto_region 8 with (fail)
      clear c8 f8
      obtain ⟨w6, ew6⟩ : ∃ v, w5.setCell ⟨z, 8, none⟩ (.slice A5 nD c5) = v := ⟨_, rfl⟩
      rw [ew6] at HO6 HL6 Ho6 HB6 HK6 HZ6 ⊢
      clear ew6
      have HBd := Lib.hid (Below.drew (Below.refl w6.heap.size w6))
      have HKd := Lib.hid (show ∀ w', Below w6.heap.size w6 w' → w'.heap[z]? = _ ∧ w'.heap[z + 1]? = _ from fun w' hb => ⟨blk_on HK6.out hb, blk_on HZ6.out hb⟩)
      refine wp_region_held_drew (S := fun w' => w'.cell? ⟨z, 0, none⟩ = some (.int .u16 s.sp) ∧ w'.cell? ⟨z, 1, none⟩ = some (.int .u16 s.dp) ∧ w'.cell? ⟨z, 2, none⟩ = some (.int .u32 s.sq) ∧ w'.cell? ⟨z, 3, none⟩ = some (.int .u32 s.ak) ∧ w'.cell? ⟨z, 4, none⟩ = some (.int .u8 s.fl) ∧ w'.cell? ⟨z, 5, none⟩ = some (.int .u16 s.wn) ∧ w'.cell? ⟨z, 6, none⟩ = some (.int .u16 s.ug) ∧ w'.cell? ⟨z, 7, none⟩ = some (.slice A2 j c2) ∧ w'.cell? ⟨z, 8, none⟩ = some (.slice A5 nD c5)) (by kernel_rfl) (cells9 (HKd.out _ HBd.out).1) (fun hHeld => ?_)
      obtain ⟨wd, ewd⟩ : ∃ wd, w6.drew = wd := ⟨_, rfl⟩
      rw [ewd] at HBd hHeld ⊢
      clear ewd
      refine tk 0 ?_ rfl ?_ ?_
      rotate_left
      · intro w' hSw; (go_simp <;> (with_reducible rfl))
      try simp only [Act.put, putL]
      refine tk 1 ?_ rfl ?_ ?_
      rotate_left
      · intro w' hSw; (go_simp <;> (with_reducible rfl))
      try simp only [Act.put, putL]
      refine tk 3 ?_ rfl ?_ ?_
      rotate_left
      · intro w' hSw; (go_simp <;> (with_reducible rfl))
      try simp only [Act.put, putL]
      refine tkC 2 rfl (fun K hK => ?_)
      go_simp
      (refine (head9_any _ sr ds _).mono ?_; rintro e w3 ⟨rfl, hb3⟩; have HB3 := Lib.hid (below_trans HBd.out hb3); clear hb3)
      refine hK.out _ _ ?_ (fun hHeld => ?_)
      · exact cells9 (HKd.out _ HB3.out).1
      clear hK K
      try simp only [Act.put, putL]
      refine tk 4 ?_ rfl ?_ ?_
      rotate_left
      · intro w' hSw; (go_simp <;> (with_reducible rfl))
      try simp only [Act.put, putL]
      refine wpAnyH_ready (rs := [5]) (by kernel_rfl) (by simp) ?_
      refine AllReadyH.cons (o := { dst := none, op := Go.Op.store 35 (Go.Operand.tmp 6) (Go.Operand.tmp 38), type := 0, pos := "packet.go:77", after := #[{ on := 4, ground := Go.Ground.data }, { on := 2, ground := Go.Ground.chain }, { on := 0, ground := Go.Ground.phase }, { on := 1, ground := Go.Ground.phase }, { on := 2, ground := Go.Ground.phase }, { on := 3, ground := Go.Ground.phase }, { on := 4, ground := Go.Ground.phase }], guard := none }) rfl (fun K hK => ?_) AllReadyH.nil
      refine step_row rfl 35 (.tmp 6) (.tmp 38) rfl (z + 1) _ rfl rfl 35 _ (HKd.out _ HB3.out).2 (by kernel_rfl) rfl (by simp [Value.oneCell']) ?_
      refine hK.out _ _ ?_ (fun hHeld => ?_)
      · exact cells9 ((setRow_other _ _ _ _ (by omega)).trans (HKd.out _ HB3.out).1)
      clear hK K
      (try simp only [Act.put, List.setIfInBounds_toArray, List.set_cons_zero, List.set_cons_succ])
      refine wpAnyH_done (by kernel_rfl) ?_ _
      have hset : But (fun g => g = z + 1) w3 (w3.setRow (z + 1) #[.int .u8 0, .int .u16 0, .bool true, .int .u8 64, .int .u8 6, .int .u32 sr, .int .u32 ds, .slice none 0 0, .int .u16 s.sp, .int .u16 s.dp, .int .u32 s.sq, .int .u32 s.ak, .int .u8 s.fl, .int .u16 s.wn, .int .u16 s.ug, .slice A2 j c2, .slice A5 nD c5, .int .u16 0, .int .u16 0, .slice none 0 0, .int .u8 0, .int .u8 0, .int .u32 0, .slice none 0 0]) := ⟨rfl, rfl, rfl, by simp, fun k _ hn => setRow_other _ _ _ _ hn⟩
      have hbE : Below w.heap.size w (w3.setRow (z + 1) #[.int .u8 0, .int .u16 0, .bool true, .int .u8 64, .int .u8 6, .int .u32 sr, .int .u32 ds, .slice none 0 0, .int .u16 s.sp, .int .u16 s.dp, .int .u32 s.sq, .int .u32 s.ak, .int .u8 s.fl, .int .u16 s.wn, .int .u16 s.ug, .slice A2 j c2, .slice A5 nD c5, .int .u16 0, .int .u16 0, .slice none 0 0, .int .u8 0, .int .u8 0, .int .u32 0, .slice none 0 0]) := below_setRow (HB6.out.trans (HB3.out.mono HB6.out.size)) (by rw [Hz.out]; omega) _
      have hO3 := HO6.out.on HB3.out
      have hOE := hO3.but hset (fun k hk e => by have := (World.ownsRow.lt hO3 k (by rw [hk]; rfl)).1; omega)
      have hLE := (HL6.out.on HB3.out).but hset (fun n c l k h2 e => by have := h2.at_ rfl; omega)
      have hDE := (Ho6.out.on HB3.out).but hset (fun k hk e => by omega)
      have hMk := madeT Hs.out Hd.out HR.out.num HR.out.d.byte hOE hLE.reads hDE
      go_wp2_with fail
      exact bodyPost_ret (results_cell_row rfl _ _ (z + 1) _ _ _ _ rfl (setRow_heap _ _ _ _ _ _ (HKd.out _ HB3.out).2) Tryz.underlying35 rfl (by kernel_rfl)) rfl ⟨_, rfl, hMk, rfl, ⟨offR.zero _ _, hOE.off.sub (fun g hg => by have := Hz.out; omega), fun v hv => (hLE.off v hv).sub (fun g hg => by have := Hz.out; omega), hDE.off.sub (fun g hg => by have := Hz.out; omega), offR.zero _ _, offR.zero _ _⟩, hbE⟩
end Go.Proofs.YtheknmihnkennaaGreat

/-
  What the laws of icmp have in common: Parse's error alone; culvertlaw08's wakes; a message that comes in, opened.
-/
namespace Go.Proofs.YtheknmihnkennaaGreat
set_option maxRecDepth 10000
open Go.Joins Go.ChangeShapes Go.WideShapes Go.ChangeAt Go.RowKit Go.Deep
set_option linter.unusedSimpArgs false
set_option linter.unusedVariables false

end Go.Proofs.YtheknmihnkennaaGreat
