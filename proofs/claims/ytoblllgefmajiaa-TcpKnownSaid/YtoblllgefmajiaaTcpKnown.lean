/-
  TcpKnown holds: the chapter's rows; each error once; limits. A closed statement: no condition.
-/
import Derived.Test.YtoblllgefmajiaaTcpLaw
import Derived.RegionTactic
import Derived.BigRegion
import Derived.Deep.DeepCutAuto
import Derived.Deep.RegionHeld3
namespace Go.Proofs.Ytoblllgefmajiaa.tcpKnown
set_option maxRecDepth 10000
open Go.ChangeShapes Go.WideShapes Go.ChangeAt Go.RowKit
set_option linter.unusedVariables false
set_option linter.unusedSimpArgs false

/-- Parse, of what is wrong alone. -/
def ErrSegIs (x : Int) (w : World) (e : Ending) (w' : World) : Prop :=
  ∃ (a b c d f i j : Int) (A : Option Addr) (n m : Nat) (A' : Option Addr) (n' m' : Nat), e = .returned (.tuple #[.agg #[.int .u16 a, .int .u16 b, .int .u32 c, .int .u32 d, .int .u8 f, .int .u16 i, .int .u16 j, .slice A n m, .slice A' n' m'], .int .i64 x]) ∧ Below w.heap.size w w'
theorem tparse_x (src dst : Int) (A : Option Addr) (n c : Nat) (b : List Int) (x : Int) (w : World) (hc : n ≤ c ∧ c ≤ maxLen) (hA : Rd w A n b) (hx : errSeg src dst b = x) :
    Calls Try.prog 17 #[.int .u32 src, .int .u32 dst, .slice A n c] w (ErrSegIs x w) := by
  by_cases h0 : x = 0
  · subst h0
    exact (tparse_ok src dst A n c b w hc hA hx).mono fun e w' ⟨AO, nO, cO, os, AD, cD, he, _, _, _, hb⟩ => ⟨_, _, _, _, _, _, _, _, _, _, _, _, _, he, hb⟩
  · exact (tparse_err src dst A n c b x w hc hA hx h0).mono fun e w' ⟨he, hb⟩ => ⟨_, _, _, _, _, _, _, _, _, _, _, _, _, he, hb⟩

def knownS : Seg := ⟨0, 0, 0, 0, 0, 0, 0, [(4, [])], [9]⟩
def ownT : List Int := segB 1 2 knownS
theorem ownT_len : ownT.length = 25 := by decide +kernel
theorem ownT_bytes : ∀ x ∈ ownT, 0 ≤ x ∧ x < 256 := by decide +kernel
def zeroT (a : Nat) (x : Int) : List Int := ((ownT.set a x).set 16 0).set 17 0
def fieldT (a : Nat) (x : Int) : Int := 65535 - sumL (pseudoL 1 2 6 25 ++ zeroT a x)
def spoilT (a : Nat) (x : Int) : List Int := ((zeroT a x).set 16 (fieldT a x / 256)).set 17 (fieldT a x % 256)
theorem e1 : errSeg 1 2 (spoilT 12 64) = 5 := by decide +kernel
theorem e2 : errSeg 1 2 (spoilT 12 112) = 4 := by decide +kernel
theorem e3 : errSeg 1 2 (spoilT 12 111) = 0 := by decide +kernel
theorem e4 : errSeg 1 2 (spoilT 21 1) = 5 := by decide +kernel
theorem e5 : errSeg 1 2 (spoilT 21 9) = 5 := by decide +kernel
theorem e6 : errSeg 1 2 (spoilT 13 255) = 0 := by decide +kernel
theorem bytes_set {l : List Int} (h : ∀ x ∈ l, 0 ≤ x ∧ x < 256) (k : Nat) {x : Int} (hx : 0 ≤ x ∧ x < 256) : ∀ y ∈ l.set k x, 0 ≤ y ∧ y < 256 := fun y hy => by
  rcases List.mem_or_eq_of_mem_set hy with h' | h'
  · exact h y h'
  · rw [h']; exact hx
theorem fieldT_bd (a : Nat) (x : Int) : 0 ≤ fieldT a x ∧ fieldT a x < 65536 := by
  unfold fieldT
  have := sumL_bd (pseudoL 1 2 6 25 ++ zeroT a x)
  omega

def IntIs (x : Int) (w : World) (e : Ending) (w' : World) : Prop := e = .returned (.int .i64 x) ∧ Below w.heap.size w w'
set_option maxHeartbeats 2000000 in
theorem spoil_told (p g c a : Nat) (ai is_ x : Int) (w : World) (eai : ai = (a : Int)) (ha : a < 25) (h16 : a ≠ 16) (h17 : a ≠ 17) (hi : 0 ≤ is_ ∧ is_ < 256) (hx : errSeg 1 2 (spoilT a is_) = x)
    (hp : Box w p 25 (.slice (some ⟨g, 0, none⟩) 25 c)) (hr : Rd w (some ⟨g, 0, none⟩) 25 ownT) :
    Calls Try.prog 31 #[.int .i64 ai, .int .u8 is_, .pointer (some ⟨p, 0, none⟩)] w (IntIs x w) := by
  subst eai
  have Hx := Lib.hid hx
  have Hr := Lib.hid hr
  have hpc := hp.cell
  have hi0 := hi.1
  have hi1 := hi.2
  clear hx hr hp
  go_enter Try.func31, Try.ntmps31
  go_upto_region 2 with ((refine wpList_app rfl (.const (.slice none 0 0)) (.tmp 10) rfl w.heap.size none (some ⟨g, 0, none⟩) 0 0 25 c [] ownT rfl rfl (OwnB.nil _ _) Hr.out (by omega) (Nat.le_refl _) ?_; intro A1 c1 w1 hown1 _ hb1 _))
  obtain ⟨g1, rfl, hg1, -⟩ := hown1.addr (by omega)
  have HO := Lib.hid (show OwnB w1 w.heap.size (some ⟨g1, 0, none⟩) 25 c1 ownT by simpa using hown1)
  have HB := Lib.hid hb1
  have hc1 := hown1.cap
  have hc2 := hown1.capMax
  have Hc := Lib.hid (And.intro hc1 hc2)
  clear hown1 hb1 hc2
  have f0 : ∀ j, w1.frozen? ⟨g1, j, none⟩ = false := fun j => World.ownsRow.frozenAt HO.out j
  have ca := HO.out.cell a ha
  have c16 := HO.out.cell 16 (by omega)
  have c17 := HO.out.cell 17 (by omega)
  obtain ⟨va, eva⟩ : ∃ va, ownT.getD a 0 = va := ⟨_, rfl⟩
  obtain ⟨vb, evb⟩ : ∃ vb, ownT.getD 16 0 = vb := ⟨_, rfl⟩
  obtain ⟨vd, evd⟩ : ∃ vd, ownT.getD 17 0 = vd := ⟨_, rfl⟩
  rw [eva] at ca
  rw [evb] at c16
  rw [evd] at c17
  clear eva evb evd
  have j0 : (0 : Int) ≤ (a : Int) := by omega
  have j1 : (a : Int) < 25 := by omega
  have j2 : ¬ a = 16 := h16
  have j3 : ¬ a = 17 := h17
  have j4 : ¬ 16 = a := by omega
  have j5 : ¬ 17 = a := by omega
  go_wp2_with fail
  have HO := Lib.hid (show OwnB (((w1.setCell ⟨g1, a, none⟩ (.int .u8 is_)).setCell ⟨g1, 16, none⟩ (.int .u8 0)).setCell ⟨g1, 17, none⟩ (.int .u8 0)) w.heap.size (some ⟨g1, 0, none⟩) 25 c1 (zeroT a is_) from ((HO.out.set_ a is_).set_ 16 0).set_ 17 0)
  have HB := Lib.hid (((HB.out.setCell (p := ⟨g1, a, none⟩) hg1 (.int .u8 is_)).setCell (p := ⟨g1, 16, none⟩) hg1 (.int .u8 0)).setCell (p := ⟨g1, 17, none⟩) hg1 (.int .u8 0))
  clear ca c16 c17 f0 j0 j1 j2 j3 j4 j5
  generalize ((w1.setCell ⟨g1, a, none⟩ (.int .u8 is_)).setCell ⟨g1, 16, none⟩ (.int .u8 0)).setCell ⟨g1, 17, none⟩ (.int .u8 0) = w2 at HO HB ⊢
  have hzb : ∀ x ∈ zeroT a is_, 0 ≤ x ∧ x < 256 := bytes_set (bytes_set (bytes_set ownT_bytes _ hi) _ (by omega)) _ (by omega)
  have Hzb := Lib.hid hzb
  clear hzb
  refine (pseudo_any 1 2 6 25 _ (by omega)).mono ?_
  rintro e w3 ⟨A3, c3, rfl, k3, m3, ho3, hb3⟩
  have Hr3 := Lib.hid (ho3.rd (pseudo_byte _ _ _ _ (by omega)))
  have HO := Lib.hid (HO.out.on hb3)
  have HB := Lib.hid (HB.out.trans (hb3.mono HB.out.size))
  clear ho3 hb3
  go_wp2_with fail
  obtain ⟨nn, enn⟩ : ∃ nn, fieldT a is_ = nn := ⟨_, rfl⟩
  have hnn := fieldT_bd a is_
  rw [enn] at hnn
  have Enn := Lib.hid enn
  clear enn
  refine (field_told _ 2 2 [pseudoL 1 2 6 25, zeroT a is_] _ nn (by omega) (RdL.twoW w3 _ A3 (some ⟨g1, 0, none⟩) 12 c3 25 c1 _ _ ⟨k3, m3⟩ Hc.out Hr3.out (HO.out.rd Hzb.out)) (by rw [← Enn.out]; unfold fieldT; simp)).mono ?_
  rintro e w4 ⟨rfl, hb4⟩
  have hb4' := below_alloc hb4
  have HO := Lib.hid (HO.out.on hb4')
  have HB := Lib.hid (HB.out.trans (hb4'.mono HB.out.size))
  clear hb4 hb4' Hr3 k3 m3
  obtain ⟨n0, n1⟩ := hnn
  have hwu : IntKind.u8.wrap (nn / 256) = nn / 256 := wraps_u8 _ (by omega) (by omega)
  have hwv : IntKind.u8.wrap nn = nn % 256 := by simp [IntKind.wrap, IntKind.bits, IntKind.signed]
  have f0 : ∀ j, w4.frozen? ⟨g1, j, none⟩ = false := fun j => World.ownsRow.frozenAt HO.out j
  have c16 := HO.out.cell 16 (by omega)
  have c17 := HO.out.cell 17 (by omega)
  obtain ⟨vb, evb⟩ : ∃ vb, (zeroT a is_).getD 16 0 = vb := ⟨_, rfl⟩
  obtain ⟨vd, evd⟩ : ∃ vd, (zeroT a is_).getD 17 0 = vd := ⟨_, rfl⟩
  rw [evb] at c16
  rw [evd] at c17
  clear evb evd
  go_wp2_with fail
  have HO := Lib.hid (show OwnB ((w4.setCell ⟨g1, 16, none⟩ (.int .u8 (nn / 256))).setCell ⟨g1, 17, none⟩ (.int .u8 (nn % 256))) w.heap.size (some ⟨g1, 0, none⟩) 25 c1 (spoilT a is_) from by unfold spoilT; rw [Enn.out]; exact (HO.out.set_ 16 (nn / 256)).set_ 17 (nn % 256))
  have HB := Lib.hid ((HB.out.setCell (p := ⟨g1, 16, none⟩) hg1 (.int .u8 (nn / 256))).setCell (p := ⟨g1, 17, none⟩) hg1 (.int .u8 (nn % 256)))
  have Hsb := Lib.hid (show ∀ x ∈ spoilT a is_, 0 ≤ x ∧ x < 256 from by unfold spoilT; rw [Enn.out]; exact bytes_set (bytes_set Hzb.out _ (by omega)) _ (by omega))
  clear c16 c17 f0 hwu hwv
  refine (tparse_x 1 2 (some ⟨g1, 0, none⟩) 25 c1 (spoilT a is_) x _ Hc.out (HO.out.rd Hsb.out) Hx.out).mono ?_
  rintro e w5 ⟨_, _, _, _, _, _, _, _, _, _, _, _, _, rfl, hb5⟩
  have HB := Lib.hid (HB.out.trans (hb5.mono HB.out.size))
  clear hb5
  go_wp2_with fail
  go_ret
  exact ⟨rfl, HB.out.alloc HB.out.size _⟩

theorem RdO.below_but {S : Nat → Prop} {w w' : World} {A : Option Addr} {n : Nat} {os : List OptV} (h : RdO w A n os) (hb : But S w w') (hS : ∀ b o, A = some ⟨b, o, none⟩ → 0 < n → ¬ S b) : RdO w' A n os :=
  ⟨h.len, fun hn => by
    obtain ⟨b, o, e, hlt, hc⟩ := h.at_ hn
    exact ⟨b, o, e, hb.lt hlt, fun i hi => ⟨by rw [hb.cell (p := ⟨b, o + i * 2, none⟩) hlt (hS b o e hn)]; exact (hc i hi).1, by rw [hb.cell (p := ⟨b, o + (i * 2 + 1), none⟩) hlt (hS b o e hn)]; exact (hc i hi).2⟩⟩⟩
theorem drew_heap (w : World) : w.drew.heap = w.heap := rfl
theorem at_alloc {w : World} {o : Obj} {g : Nat} (h : w.heap.size = g) : (w.alloc o).heap[g]? = some o := by subst h; exact heap_alloc_new w o
theorem old_alloc {w : World} {o o' : Obj} {g : Nat} (h : g < w.heap.size) (k : w.heap[g]? = some o') : (w.alloc o).heap[g]? = some o' := (Below.heap_alloc _ _ _ h).trans k
theorem made_rd {w : World} {g m : Nat} (h : w.heap[g]? = some (.cells (madeCells #[Value.int .u8 0] m) 5 (0, 0))) : Rd w (some ⟨g, 0, none⟩) m (List.replicate m 0) := by
  refine ⟨by simp, fun x hx => by rw [List.eq_of_mem_replicate hx]; omega, fun _ => ⟨_, 0, rfl, lt_of_block h, fun i hi => ?_⟩⟩
  simp only [World.cell?, h, Nat.zero_add]
  rw [← Array.getElem?_toList, toList_madeCells_one]
  simp [List.getD, hi]
theorem opt_rd {w : World} {g : Nat} {kd : Int} {A : Option Addr} {n c : Nat} (h : w.heap[g]? = some (.cells #[.int .u8 kd, .slice A n c] 39 (0, 0))) : RdO w (some ⟨g, 0, none⟩) 1 [⟨kd, A, n, c⟩] := by
  refine ⟨rfl, fun _ => ⟨g, 0, rfl, lt_of_block h, fun i hi => ?_⟩⟩
  obtain rfl : i = 0 := by omega
  simp [World.cell?, h]
theorem opt_own (w : World) (B g : Nat) (kd : Int) (A : Option Addr) (n c : Nat) (hB : B ≤ g) (h : w.heap[g]? = some (.cells #[.int .u8 kd, .slice A n c] 39 (0, 0))) : OwnO w B (some ⟨g, 0, none⟩) 1 1 [⟨kd, A, n, c⟩] :=
  ⟨rfl, .inr ⟨g, 1, _, rfl, hB, h, Nat.le_refl _, by simp [maxLen], rfl, rfl⟩⟩
/-- What the first statement makes. -/
structure Full (w wx : World) (z1 z2 z3 z4 : Nat) : Prop where
  h1 : wx.heap[z1]? = some (.cells (madeCells #[Value.int .u8 0] 38) 5 (0, 0))
  h2 : wx.heap[z2]? = some (.cells #[.int .u8 99, .slice (some ⟨z1, 0, none⟩) 38 38] 39 (0, 0))
  h3 : wx.heap[z3]? = some (.cells (madeCells #[Value.int .u8 0] 1420) 5 (0, 0))
  h4 : wx.heap[z4]? = some (.cells #[.int .u16 0, .int .u16 0, .int .u32 0, .int .u32 0, .int .u8 0, .int .u16 0, .int .u16 0, .slice (some ⟨z2, 0, none⟩) 1 1, .slice (some ⟨z3, 0, none⟩) 1420 1420] 27 (0, 0))
  b : Below w.heap.size w wx
theorem full_of {w wx : World} {z1 z2 z3 z4 : Nat} (h1 : wx.heap[z1]? = some (.cells (madeCells #[Value.int .u8 0] 38) 5 (0, 0)))
    (h2 : wx.heap[z2]? = some (.cells #[.int .u8 99, .slice (some ⟨z1, 0, none⟩) 38 38] 39 (0, 0))) (h3 : wx.heap[z3]? = some (.cells (madeCells #[Value.int .u8 0] 1420) 5 (0, 0)))
    (h4 : wx.heap[z4]? = some (.cells #[.int .u16 0, .int .u16 0, .int .u32 0, .int .u32 0, .int .u8 0, .int .u16 0, .int .u16 0, .slice (some ⟨z2, 0, none⟩) 1 1, .slice (some ⟨z3, 0, none⟩) 1420 1420] 27 (0, 0))) (b : Below w.heap.size w wx) : Full w wx.drew z1 z2 z3 z4 :=
  ⟨h1, h2, h3, h4, Below.drew b⟩
theorem full_of2 {w wx : World} {z1 z2 z3 z4 : Nat} {C38 C1420 : Array Value} (e38 : Hid (madeCells (Value.int .u8 0).cells 38 = C38)) (e1420 : Hid (madeCells (Value.int .u8 0).cells 1420 = C1420)) (h1 : wx.heap[z1]? = some (.cells C38 5 (0, 0)))
    (h2 : wx.heap[z2]? = some (.cells #[.int .u8 99, .slice (some ⟨z1, 0, none⟩) 38 38] 39 (0, 0))) (h3 : wx.heap[z3]? = some (.cells C1420 5 (0, 0)))
    (h4 : wx.heap[z4]? = some (.cells #[.int .u16 0, .int .u16 0, .int .u32 0, .int .u32 0, .int .u8 0, .int .u16 0, .int .u16 0, .slice (some ⟨z2, 0, none⟩) 1 1, .slice (some ⟨z3, 0, none⟩) 1420 1420] 27 (0, 0))) (b : Below w.heap.size w wx) : Full w wx.drew z1 z2 z3 z4 :=
  full_of (by rw [h1, ← e38.out]; rfl) h2 (by rw [h3, ← e1420.out]; rfl) h4 b
def Three (n a b c : Nat) : Prop := a ≠ b ∧ a ≠ c ∧ b ≠ c ∧ n ≤ a ∧ n ≤ b ∧ n ≤ c ∧ a < n + 3 ∧ b < n + 3 ∧ c < n + 3
theorem three_blk (w : World) (o : Obj) (g : Nat) (h0 : w.heap.size ≤ g) (h1 : g < w.heap.size + 3) : ((((w.alloc o).alloc o).alloc o).drew).heap[g]? = some o := by
  have e : g = w.heap.size ∨ g = w.heap.size + 1 ∨ g = w.heap.size + 2 := by omega
  show (((w.alloc o).alloc o).alloc o).heap[g]? = some o
  rcases e with rfl | rfl | rfl
  · exact old_alloc (by simp <;> omega) (old_alloc (by simp <;> omega) (at_alloc rfl))
  · exact old_alloc (by simp <;> omega) (at_alloc (by simp))
  · exact at_alloc (by simp)
def fullS : Seg := ⟨0, 0, 0, 0, 0, 0, 0, [(99, List.replicate 38 0)], List.replicate 1420 0⟩
def longS : Seg := ⟨0, 0, 0, 0, 0, 0, 0, [(99, List.replicate 38 0)], List.replicate 1421 0⟩
def oddS : Seg := ⟨0, 0, 0, 0, 0, 0, 0, [(1, [])], List.replicate 1420 0⟩
def manyS : Seg := ⟨0, 0, 0, 0, 0, 0, 0, [(4, []), (99, List.replicate 38 0)], List.replicate 1420 0⟩
theorem full_err : errS fullS = 0 := by decide +kernel
theorem full_len : lenB fullS = 1480 := by decide +kernel
theorem long_err : errS longS = 3 := by decide +kernel
theorem odd_err : errS oddS = 1 := by decide +kernel
theorem many_err : errS manyS = 3 := by decide +kernel
theorem known_err : errS knownS = 0 := by decide +kernel
theorem like_13 : likeB (sumL (pseudoL 1 2 0 0)) (sumL (pseudoL 1 3 0 0)) = false := by decide +kernel
theorem p_long : errSeg 1 2 (List.replicate 1481 0) = 3 := by unfold errSeg; rw [if_pos (by simp)]
theorem p_short : errSeg 1 2 (List.replicate 19 0) = 4 := by decide +kernel
theorem p_form : errSeg 1 2 (List.replicate 20 0) = 5 := by decide +kernel
theorem num0 : (0 : Int) ≤ 0 ∧ (0 : Int) < 65536 := by decide
theorem num00 : (0 : Int) ≤ 0 ∧ (0 : Int) < 4294967296 := by decide
theorem num4 : (0 : Int) ≤ 4 ∧ (4 : Int) < 256 := by decide
theorem num8 : (0 : Int) ≤ 0 ∧ (0 : Int) < 256 := by decide
theorem known_len : lenB knownS = 25 := by decide +kernel
theorem known_rd (v : World) (g : Nat) (hg : v.heap.size = g) : SegRd ((v.alloc (.cells #[.int .u8 4, .slice none 0 0] 39)).alloc (.cells #[.int .u8 9] 5)) knownS (some ⟨g, 0, none⟩) 1 1 [⟨4, none, 0, 0⟩] (some ⟨g + 1, 0, none⟩) 1 1 :=
  ⟨⟨num0, num0, num00, num00, num8, num0, num0⟩, ⟨by omega, by simp [maxLen]⟩, ⟨by omega, by simp [maxLen]⟩,
    opt_rd (old_alloc (by simp; omega) (at_alloc hg)),
    ⟨⟨rfl, num4, Nat.le_refl _, by simp [maxLen], Rd.nil _ _⟩, trivial⟩,
    Rd.const_ _ (g + 1) (by simp [hg]) [9] _ _ (by decide)⟩

set_option maxHeartbeats 8000000 in
set_option maxRecDepth 100000 in
theorem walk (w : World) :
    Calls Try.prog 8 #[] w fun e w' => e = .returned (.bool true) ∧ Below w.heap.size w w' := by
  obtain ⟨C38, e38, k38⟩ : ∃ C38, madeCells (Value.int .u8 0).cells 38 = C38 ∧ ∀ w, (Instr.makeSlice 25 (.int .i64 38) (.int .i64 38)).run Try.prog w = .ok (.slice (some ⟨w.heap.size, 0, none⟩) 38 38) (w.alloc (.cells C38 5)) := ⟨_, rfl, fun w => made_run 38 (by omega) w⟩
  have E38 := Lib.hid e38
  clear e38
  obtain ⟨C1420, e1420, k1420⟩ : ∃ C1420, madeCells (Value.int .u8 0).cells 1420 = C1420 ∧ ∀ w, (Instr.makeSlice 25 (.int .i64 1420) (.int .i64 1420)).run Try.prog w = .ok (.slice (some ⟨w.heap.size, 0, none⟩) 1420 1420) (w.alloc (.cells C1420 5)) := ⟨_, rfl, fun w => made_run 1420 (by omega) w⟩
  have E1420 := Lib.hid e1420
  clear e1420
  have k1421 : ∀ w, (Instr.makeSlice 25 (.int .i64 1421) (.int .i64 1421)).run Try.prog w = .ok (.slice (some ⟨w.heap.size, 0, none⟩) 1421 1421) (w.alloc (.cells (madeCells (Value.int .u8 0).cells 1421) 5)) := fun w => made_run 1421 (by omega) w
  have k1481 : ∀ w, (Instr.makeSlice 25 (.int .i64 1481) (.int .i64 1481)).run Try.prog w = .ok (.slice (some ⟨w.heap.size, 0, none⟩) 1481 1481) (w.alloc (.cells (madeCells (Value.int .u8 0).cells 1481) 5)) := fun w => made_run 1481 (by omega) w
  have k19 : ∀ w, (Instr.makeSlice 25 (.int .i64 19) (.int .i64 19)).run Try.prog w = .ok (.slice (some ⟨w.heap.size, 0, none⟩) 19 19) (w.alloc (.cells (madeCells (Value.int .u8 0).cells 19) 5)) := fun w => made_run 19 (by omega) w
  have k20 : ∀ w, (Instr.makeSlice 25 (.int .i64 20) (.int .i64 20)).run Try.prog w = .ok (.slice (some ⟨w.heap.size, 0, none⟩) 20 20) (w.alloc (.cells (madeCells (Value.int .u8 0).cells 20) 5)) := fun w => made_run 20 (by omega) w
  have hmf : ∀ (fn : Fn) (first cap : Array Value) (w : World), (Instr.makeFunc fn first cap).run Try.prog w = .ok (.func fn first cap) w := fun _ _ _ _ => rfl
  go_enter Try.func8, Try.ntmps8
  go_upto_region 1 with (fail)
  go_cut [1] (fun s1 wx => ∃ z1 z2 z3 z4 : Nat, s1 = .pointer (some ⟨z4, 0, none⟩) ∧ Full w wx z1 z2 z3 z4)
  case first =>
    as_aux_lemma =>
    go_region_held3 (fun w' => True) (exact trivial) (fail)
    all_goals
      as_aux_lemma =>
      go_wp2_with fail
      go_meet
      first
        | exact ⟨w.heap.size, w.heap.size + 1, w.heap.size + 1 + 1, w.heap.size + 1 + 1 + 1, rfl, full_of2 E38 E1420 (by first | exact at_alloc (by simp) | exact old_alloc (by simp <;> omega) (at_alloc (by simp)) | exact old_alloc (by simp <;> omega) (old_alloc (by simp <;> omega) (at_alloc (by simp))) | exact old_alloc (by simp <;> omega) (old_alloc (by simp <;> omega) (old_alloc (by simp <;> omega) (at_alloc (by simp))))) (by first | exact at_alloc (by simp) | exact old_alloc (by simp <;> omega) (at_alloc (by simp)) | exact old_alloc (by simp <;> omega) (old_alloc (by simp <;> omega) (at_alloc (by simp))) | exact old_alloc (by simp <;> omega) (old_alloc (by simp <;> omega) (old_alloc (by simp <;> omega) (at_alloc (by simp))))) (by first | exact at_alloc (by simp) | exact old_alloc (by simp <;> omega) (at_alloc (by simp)) | exact old_alloc (by simp <;> omega) (old_alloc (by simp <;> omega) (at_alloc (by simp))) | exact old_alloc (by simp <;> omega) (old_alloc (by simp <;> omega) (old_alloc (by simp <;> omega) (at_alloc (by simp))))) (by first | exact at_alloc (by simp) | exact old_alloc (by simp <;> omega) (at_alloc (by simp)) | exact old_alloc (by simp <;> omega) (old_alloc (by simp <;> omega) (at_alloc (by simp))) | exact old_alloc (by simp <;> omega) (old_alloc (by simp <;> omega) (old_alloc (by simp <;> omega) (at_alloc (by simp))))) (((((Below.refl _ _).alloc (Nat.le_refl _) _).alloc (by simp) _).alloc (by simp <;> omega) _).alloc (by simp <;> omega) _)⟩
        | exact ⟨w.heap.size, w.heap.size + 1, w.heap.size + 1 + 1 + 1, w.heap.size + 1 + 1, rfl, full_of2 E38 E1420 (by first | exact at_alloc (by simp) | exact old_alloc (by simp <;> omega) (at_alloc (by simp)) | exact old_alloc (by simp <;> omega) (old_alloc (by simp <;> omega) (at_alloc (by simp))) | exact old_alloc (by simp <;> omega) (old_alloc (by simp <;> omega) (old_alloc (by simp <;> omega) (at_alloc (by simp))))) (by first | exact at_alloc (by simp) | exact old_alloc (by simp <;> omega) (at_alloc (by simp)) | exact old_alloc (by simp <;> omega) (old_alloc (by simp <;> omega) (at_alloc (by simp))) | exact old_alloc (by simp <;> omega) (old_alloc (by simp <;> omega) (old_alloc (by simp <;> omega) (at_alloc (by simp))))) (by first | exact at_alloc (by simp) | exact old_alloc (by simp <;> omega) (at_alloc (by simp)) | exact old_alloc (by simp <;> omega) (old_alloc (by simp <;> omega) (at_alloc (by simp))) | exact old_alloc (by simp <;> omega) (old_alloc (by simp <;> omega) (old_alloc (by simp <;> omega) (at_alloc (by simp))))) (by first | exact at_alloc (by simp) | exact old_alloc (by simp <;> omega) (at_alloc (by simp)) | exact old_alloc (by simp <;> omega) (old_alloc (by simp <;> omega) (at_alloc (by simp))) | exact old_alloc (by simp <;> omega) (old_alloc (by simp <;> omega) (old_alloc (by simp <;> omega) (at_alloc (by simp))))) (((((Below.refl _ _).alloc (Nat.le_refl _) _).alloc (by simp) _).alloc (by simp <;> omega) _).alloc (by simp <;> omega) _)⟩
        | exact ⟨w.heap.size, w.heap.size + 1 + 1, w.heap.size + 1, w.heap.size + 1 + 1 + 1, rfl, full_of2 E38 E1420 (by first | exact at_alloc (by simp) | exact old_alloc (by simp <;> omega) (at_alloc (by simp)) | exact old_alloc (by simp <;> omega) (old_alloc (by simp <;> omega) (at_alloc (by simp))) | exact old_alloc (by simp <;> omega) (old_alloc (by simp <;> omega) (old_alloc (by simp <;> omega) (at_alloc (by simp))))) (by first | exact at_alloc (by simp) | exact old_alloc (by simp <;> omega) (at_alloc (by simp)) | exact old_alloc (by simp <;> omega) (old_alloc (by simp <;> omega) (at_alloc (by simp))) | exact old_alloc (by simp <;> omega) (old_alloc (by simp <;> omega) (old_alloc (by simp <;> omega) (at_alloc (by simp))))) (by first | exact at_alloc (by simp) | exact old_alloc (by simp <;> omega) (at_alloc (by simp)) | exact old_alloc (by simp <;> omega) (old_alloc (by simp <;> omega) (at_alloc (by simp))) | exact old_alloc (by simp <;> omega) (old_alloc (by simp <;> omega) (old_alloc (by simp <;> omega) (at_alloc (by simp))))) (by first | exact at_alloc (by simp) | exact old_alloc (by simp <;> omega) (at_alloc (by simp)) | exact old_alloc (by simp <;> omega) (old_alloc (by simp <;> omega) (at_alloc (by simp))) | exact old_alloc (by simp <;> omega) (old_alloc (by simp <;> omega) (old_alloc (by simp <;> omega) (at_alloc (by simp))))) (((((Below.refl _ _).alloc (Nat.le_refl _) _).alloc (by simp) _).alloc (by simp <;> omega) _).alloc (by simp <;> omega) _)⟩
        | exact ⟨w.heap.size, w.heap.size + 1 + 1, w.heap.size + 1 + 1 + 1, w.heap.size + 1, rfl, full_of2 E38 E1420 (by first | exact at_alloc (by simp) | exact old_alloc (by simp <;> omega) (at_alloc (by simp)) | exact old_alloc (by simp <;> omega) (old_alloc (by simp <;> omega) (at_alloc (by simp))) | exact old_alloc (by simp <;> omega) (old_alloc (by simp <;> omega) (old_alloc (by simp <;> omega) (at_alloc (by simp))))) (by first | exact at_alloc (by simp) | exact old_alloc (by simp <;> omega) (at_alloc (by simp)) | exact old_alloc (by simp <;> omega) (old_alloc (by simp <;> omega) (at_alloc (by simp))) | exact old_alloc (by simp <;> omega) (old_alloc (by simp <;> omega) (old_alloc (by simp <;> omega) (at_alloc (by simp))))) (by first | exact at_alloc (by simp) | exact old_alloc (by simp <;> omega) (at_alloc (by simp)) | exact old_alloc (by simp <;> omega) (old_alloc (by simp <;> omega) (at_alloc (by simp))) | exact old_alloc (by simp <;> omega) (old_alloc (by simp <;> omega) (old_alloc (by simp <;> omega) (at_alloc (by simp))))) (by first | exact at_alloc (by simp) | exact old_alloc (by simp <;> omega) (at_alloc (by simp)) | exact old_alloc (by simp <;> omega) (old_alloc (by simp <;> omega) (at_alloc (by simp))) | exact old_alloc (by simp <;> omega) (old_alloc (by simp <;> omega) (old_alloc (by simp <;> omega) (at_alloc (by simp))))) (((((Below.refl _ _).alloc (Nat.le_refl _) _).alloc (by simp) _).alloc (by simp <;> omega) _).alloc (by simp <;> omega) _)⟩
        | exact ⟨w.heap.size, w.heap.size + 1 + 1 + 1, w.heap.size + 1, w.heap.size + 1 + 1, rfl, full_of2 E38 E1420 (by first | exact at_alloc (by simp) | exact old_alloc (by simp <;> omega) (at_alloc (by simp)) | exact old_alloc (by simp <;> omega) (old_alloc (by simp <;> omega) (at_alloc (by simp))) | exact old_alloc (by simp <;> omega) (old_alloc (by simp <;> omega) (old_alloc (by simp <;> omega) (at_alloc (by simp))))) (by first | exact at_alloc (by simp) | exact old_alloc (by simp <;> omega) (at_alloc (by simp)) | exact old_alloc (by simp <;> omega) (old_alloc (by simp <;> omega) (at_alloc (by simp))) | exact old_alloc (by simp <;> omega) (old_alloc (by simp <;> omega) (old_alloc (by simp <;> omega) (at_alloc (by simp))))) (by first | exact at_alloc (by simp) | exact old_alloc (by simp <;> omega) (at_alloc (by simp)) | exact old_alloc (by simp <;> omega) (old_alloc (by simp <;> omega) (at_alloc (by simp))) | exact old_alloc (by simp <;> omega) (old_alloc (by simp <;> omega) (old_alloc (by simp <;> omega) (at_alloc (by simp))))) (by first | exact at_alloc (by simp) | exact old_alloc (by simp <;> omega) (at_alloc (by simp)) | exact old_alloc (by simp <;> omega) (old_alloc (by simp <;> omega) (at_alloc (by simp))) | exact old_alloc (by simp <;> omega) (old_alloc (by simp <;> omega) (old_alloc (by simp <;> omega) (at_alloc (by simp))))) (((((Below.refl _ _).alloc (Nat.le_refl _) _).alloc (by simp) _).alloc (by simp <;> omega) _).alloc (by simp <;> omega) _)⟩
        | exact ⟨w.heap.size, w.heap.size + 1 + 1 + 1, w.heap.size + 1 + 1, w.heap.size + 1, rfl, full_of2 E38 E1420 (by first | exact at_alloc (by simp) | exact old_alloc (by simp <;> omega) (at_alloc (by simp)) | exact old_alloc (by simp <;> omega) (old_alloc (by simp <;> omega) (at_alloc (by simp))) | exact old_alloc (by simp <;> omega) (old_alloc (by simp <;> omega) (old_alloc (by simp <;> omega) (at_alloc (by simp))))) (by first | exact at_alloc (by simp) | exact old_alloc (by simp <;> omega) (at_alloc (by simp)) | exact old_alloc (by simp <;> omega) (old_alloc (by simp <;> omega) (at_alloc (by simp))) | exact old_alloc (by simp <;> omega) (old_alloc (by simp <;> omega) (old_alloc (by simp <;> omega) (at_alloc (by simp))))) (by first | exact at_alloc (by simp) | exact old_alloc (by simp <;> omega) (at_alloc (by simp)) | exact old_alloc (by simp <;> omega) (old_alloc (by simp <;> omega) (at_alloc (by simp))) | exact old_alloc (by simp <;> omega) (old_alloc (by simp <;> omega) (old_alloc (by simp <;> omega) (at_alloc (by simp))))) (by first | exact at_alloc (by simp) | exact old_alloc (by simp <;> omega) (at_alloc (by simp)) | exact old_alloc (by simp <;> omega) (old_alloc (by simp <;> omega) (at_alloc (by simp))) | exact old_alloc (by simp <;> omega) (old_alloc (by simp <;> omega) (old_alloc (by simp <;> omega) (at_alloc (by simp))))) (((((Below.refl _ _).alloc (Nat.le_refl _) _).alloc (by simp) _).alloc (by simp <;> omega) _).alloc (by simp <;> omega) _)⟩
        | exact ⟨w.heap.size + 1, w.heap.size + 1 + 1, w.heap.size, w.heap.size + 1 + 1 + 1, rfl, full_of2 E38 E1420 (by first | exact at_alloc (by simp) | exact old_alloc (by simp <;> omega) (at_alloc (by simp)) | exact old_alloc (by simp <;> omega) (old_alloc (by simp <;> omega) (at_alloc (by simp))) | exact old_alloc (by simp <;> omega) (old_alloc (by simp <;> omega) (old_alloc (by simp <;> omega) (at_alloc (by simp))))) (by first | exact at_alloc (by simp) | exact old_alloc (by simp <;> omega) (at_alloc (by simp)) | exact old_alloc (by simp <;> omega) (old_alloc (by simp <;> omega) (at_alloc (by simp))) | exact old_alloc (by simp <;> omega) (old_alloc (by simp <;> omega) (old_alloc (by simp <;> omega) (at_alloc (by simp))))) (by first | exact at_alloc (by simp) | exact old_alloc (by simp <;> omega) (at_alloc (by simp)) | exact old_alloc (by simp <;> omega) (old_alloc (by simp <;> omega) (at_alloc (by simp))) | exact old_alloc (by simp <;> omega) (old_alloc (by simp <;> omega) (old_alloc (by simp <;> omega) (at_alloc (by simp))))) (by first | exact at_alloc (by simp) | exact old_alloc (by simp <;> omega) (at_alloc (by simp)) | exact old_alloc (by simp <;> omega) (old_alloc (by simp <;> omega) (at_alloc (by simp))) | exact old_alloc (by simp <;> omega) (old_alloc (by simp <;> omega) (old_alloc (by simp <;> omega) (at_alloc (by simp))))) (((((Below.refl _ _).alloc (Nat.le_refl _) _).alloc (by simp) _).alloc (by simp <;> omega) _).alloc (by simp <;> omega) _)⟩
        | exact ⟨w.heap.size + 1, w.heap.size + 1 + 1, w.heap.size + 1 + 1 + 1, w.heap.size, rfl, full_of2 E38 E1420 (by first | exact at_alloc (by simp) | exact old_alloc (by simp <;> omega) (at_alloc (by simp)) | exact old_alloc (by simp <;> omega) (old_alloc (by simp <;> omega) (at_alloc (by simp))) | exact old_alloc (by simp <;> omega) (old_alloc (by simp <;> omega) (old_alloc (by simp <;> omega) (at_alloc (by simp))))) (by first | exact at_alloc (by simp) | exact old_alloc (by simp <;> omega) (at_alloc (by simp)) | exact old_alloc (by simp <;> omega) (old_alloc (by simp <;> omega) (at_alloc (by simp))) | exact old_alloc (by simp <;> omega) (old_alloc (by simp <;> omega) (old_alloc (by simp <;> omega) (at_alloc (by simp))))) (by first | exact at_alloc (by simp) | exact old_alloc (by simp <;> omega) (at_alloc (by simp)) | exact old_alloc (by simp <;> omega) (old_alloc (by simp <;> omega) (at_alloc (by simp))) | exact old_alloc (by simp <;> omega) (old_alloc (by simp <;> omega) (old_alloc (by simp <;> omega) (at_alloc (by simp))))) (by first | exact at_alloc (by simp) | exact old_alloc (by simp <;> omega) (at_alloc (by simp)) | exact old_alloc (by simp <;> omega) (old_alloc (by simp <;> omega) (at_alloc (by simp))) | exact old_alloc (by simp <;> omega) (old_alloc (by simp <;> omega) (old_alloc (by simp <;> omega) (at_alloc (by simp))))) (((((Below.refl _ _).alloc (Nat.le_refl _) _).alloc (by simp) _).alloc (by simp <;> omega) _).alloc (by simp <;> omega) _)⟩
        | exact ⟨w.heap.size + 1, w.heap.size + 1 + 1 + 1, w.heap.size, w.heap.size + 1 + 1, rfl, full_of2 E38 E1420 (by first | exact at_alloc (by simp) | exact old_alloc (by simp <;> omega) (at_alloc (by simp)) | exact old_alloc (by simp <;> omega) (old_alloc (by simp <;> omega) (at_alloc (by simp))) | exact old_alloc (by simp <;> omega) (old_alloc (by simp <;> omega) (old_alloc (by simp <;> omega) (at_alloc (by simp))))) (by first | exact at_alloc (by simp) | exact old_alloc (by simp <;> omega) (at_alloc (by simp)) | exact old_alloc (by simp <;> omega) (old_alloc (by simp <;> omega) (at_alloc (by simp))) | exact old_alloc (by simp <;> omega) (old_alloc (by simp <;> omega) (old_alloc (by simp <;> omega) (at_alloc (by simp))))) (by first | exact at_alloc (by simp) | exact old_alloc (by simp <;> omega) (at_alloc (by simp)) | exact old_alloc (by simp <;> omega) (old_alloc (by simp <;> omega) (at_alloc (by simp))) | exact old_alloc (by simp <;> omega) (old_alloc (by simp <;> omega) (old_alloc (by simp <;> omega) (at_alloc (by simp))))) (by first | exact at_alloc (by simp) | exact old_alloc (by simp <;> omega) (at_alloc (by simp)) | exact old_alloc (by simp <;> omega) (old_alloc (by simp <;> omega) (at_alloc (by simp))) | exact old_alloc (by simp <;> omega) (old_alloc (by simp <;> omega) (old_alloc (by simp <;> omega) (at_alloc (by simp))))) (((((Below.refl _ _).alloc (Nat.le_refl _) _).alloc (by simp) _).alloc (by simp <;> omega) _).alloc (by simp <;> omega) _)⟩
        | exact ⟨w.heap.size + 1, w.heap.size + 1 + 1 + 1, w.heap.size + 1 + 1, w.heap.size, rfl, full_of2 E38 E1420 (by first | exact at_alloc (by simp) | exact old_alloc (by simp <;> omega) (at_alloc (by simp)) | exact old_alloc (by simp <;> omega) (old_alloc (by simp <;> omega) (at_alloc (by simp))) | exact old_alloc (by simp <;> omega) (old_alloc (by simp <;> omega) (old_alloc (by simp <;> omega) (at_alloc (by simp))))) (by first | exact at_alloc (by simp) | exact old_alloc (by simp <;> omega) (at_alloc (by simp)) | exact old_alloc (by simp <;> omega) (old_alloc (by simp <;> omega) (at_alloc (by simp))) | exact old_alloc (by simp <;> omega) (old_alloc (by simp <;> omega) (old_alloc (by simp <;> omega) (at_alloc (by simp))))) (by first | exact at_alloc (by simp) | exact old_alloc (by simp <;> omega) (at_alloc (by simp)) | exact old_alloc (by simp <;> omega) (old_alloc (by simp <;> omega) (at_alloc (by simp))) | exact old_alloc (by simp <;> omega) (old_alloc (by simp <;> omega) (old_alloc (by simp <;> omega) (at_alloc (by simp))))) (by first | exact at_alloc (by simp) | exact old_alloc (by simp <;> omega) (at_alloc (by simp)) | exact old_alloc (by simp <;> omega) (old_alloc (by simp <;> omega) (at_alloc (by simp))) | exact old_alloc (by simp <;> omega) (old_alloc (by simp <;> omega) (old_alloc (by simp <;> omega) (at_alloc (by simp))))) (((((Below.refl _ _).alloc (Nat.le_refl _) _).alloc (by simp) _).alloc (by simp <;> omega) _).alloc (by simp <;> omega) _)⟩
        | exact ⟨w.heap.size + 1 + 1, w.heap.size + 1 + 1 + 1, w.heap.size, w.heap.size + 1, rfl, full_of2 E38 E1420 (by first | exact at_alloc (by simp) | exact old_alloc (by simp <;> omega) (at_alloc (by simp)) | exact old_alloc (by simp <;> omega) (old_alloc (by simp <;> omega) (at_alloc (by simp))) | exact old_alloc (by simp <;> omega) (old_alloc (by simp <;> omega) (old_alloc (by simp <;> omega) (at_alloc (by simp))))) (by first | exact at_alloc (by simp) | exact old_alloc (by simp <;> omega) (at_alloc (by simp)) | exact old_alloc (by simp <;> omega) (old_alloc (by simp <;> omega) (at_alloc (by simp))) | exact old_alloc (by simp <;> omega) (old_alloc (by simp <;> omega) (old_alloc (by simp <;> omega) (at_alloc (by simp))))) (by first | exact at_alloc (by simp) | exact old_alloc (by simp <;> omega) (at_alloc (by simp)) | exact old_alloc (by simp <;> omega) (old_alloc (by simp <;> omega) (at_alloc (by simp))) | exact old_alloc (by simp <;> omega) (old_alloc (by simp <;> omega) (old_alloc (by simp <;> omega) (at_alloc (by simp))))) (by first | exact at_alloc (by simp) | exact old_alloc (by simp <;> omega) (at_alloc (by simp)) | exact old_alloc (by simp <;> omega) (old_alloc (by simp <;> omega) (at_alloc (by simp))) | exact old_alloc (by simp <;> omega) (old_alloc (by simp <;> omega) (old_alloc (by simp <;> omega) (at_alloc (by simp))))) (((((Below.refl _ _).alloc (Nat.le_refl _) _).alloc (by simp) _).alloc (by simp <;> omega) _).alloc (by simp <;> omega) _)⟩
        | exact ⟨w.heap.size + 1 + 1, w.heap.size + 1 + 1 + 1, w.heap.size + 1, w.heap.size, rfl, full_of2 E38 E1420 (by first | exact at_alloc (by simp) | exact old_alloc (by simp <;> omega) (at_alloc (by simp)) | exact old_alloc (by simp <;> omega) (old_alloc (by simp <;> omega) (at_alloc (by simp))) | exact old_alloc (by simp <;> omega) (old_alloc (by simp <;> omega) (old_alloc (by simp <;> omega) (at_alloc (by simp))))) (by first | exact at_alloc (by simp) | exact old_alloc (by simp <;> omega) (at_alloc (by simp)) | exact old_alloc (by simp <;> omega) (old_alloc (by simp <;> omega) (at_alloc (by simp))) | exact old_alloc (by simp <;> omega) (old_alloc (by simp <;> omega) (old_alloc (by simp <;> omega) (at_alloc (by simp))))) (by first | exact at_alloc (by simp) | exact old_alloc (by simp <;> omega) (at_alloc (by simp)) | exact old_alloc (by simp <;> omega) (old_alloc (by simp <;> omega) (at_alloc (by simp))) | exact old_alloc (by simp <;> omega) (old_alloc (by simp <;> omega) (old_alloc (by simp <;> omega) (at_alloc (by simp))))) (by first | exact at_alloc (by simp) | exact old_alloc (by simp <;> omega) (at_alloc (by simp)) | exact old_alloc (by simp <;> omega) (old_alloc (by simp <;> omega) (at_alloc (by simp))) | exact old_alloc (by simp <;> omega) (old_alloc (by simp <;> omega) (old_alloc (by simp <;> omega) (at_alloc (by simp))))) (((((Below.refl _ _).alloc (Nat.le_refl _) _).alloc (by simp) _).alloc (by simp <;> omega) _).alloc (by simp <;> omega) _)⟩
  case rest =>
  obtain ⟨z1, z2, z3, z4, rfl, hF⟩ := hcut
  obtain ⟨wA, rfl⟩ : ∃ wA, wA = wc := ⟨_, rfl⟩
  have HF := Lib.hid hF
  obtain ⟨c0, c1, c2, c3, c4, c5, c6, c7, c8⟩ := seg_cells hF.h4
  have hz4 : z4 < wA.heap.size := lt_of_block hF.h4
  have hn1 : ¬ wA.heap.size = z4 := by omega
  have hn2 : ¬ z4 = wA.heap.size := by omega
  have hn3 : ¬ wA.heap.size + 1 = z4 := by omega
  have hn4 : ¬ z4 = wA.heap.size + 1 := by omega
  have hold : ∀ (w' : World) (i : Nat), Below wA.heap.size wA w' → w'.cell? ⟨z4, i, none⟩ = wA.cell? ⟨z4, i, none⟩ := fun w' i h => h.cell (p := ⟨z4, i, none⟩) hz4
  have hq1 : ∀ (o1 : Obj) (i : Nat), (wA.alloc o1).cell? ⟨z4, i, none⟩ = wA.cell? ⟨z4, i, none⟩ := fun o1 i => hold _ i ((Below.refl _ _).alloc (Nat.le_refl _) _)
  have hq2 : ∀ (o1 o2 : Obj) (i : Nat), ((wA.alloc o1).alloc o2).cell? ⟨z4, i, none⟩ = wA.cell? ⟨z4, i, none⟩ := fun o1 o2 i => hold _ i (((Below.refl _ _).alloc (Nat.le_refl _) _).alloc (by simp) _)
  have hq3 : ∀ (o1 o2 o3 : Obj) (i : Nat), (((wA.alloc o1).alloc o2).alloc o3).cell? ⟨z4, i, none⟩ = wA.cell? ⟨z4, i, none⟩ := fun o1 o2 o3 i => hold _ i ((((Below.refl _ _).alloc (Nat.le_refl _) _).alloc (by simp) _).alloc (by simp <;> omega) _)
  clear hold
  clear hF
  go_upto_region 2 with (fail)
  go_cut [2, 3, 4] (fun s2 s3 s4 wx => ∃ g2 g3 g4 : Nat, s2 = .pointer (some ⟨g2, 0, none⟩) ∧ s3 = .pointer (some ⟨g3, 0, none⟩) ∧ s4 = .pointer (some ⟨g4, 0, none⟩) ∧ Three wA.heap.size g2 g3 g4 ∧ (((wA.alloc (.cells #[.int .u16 0, .int .u16 0, .int .u32 0, .int .u32 0, .int .u8 0, .int .u16 0, .int .u16 0, .slice (some ⟨z2, 0, none⟩) 1 1, .slice (some ⟨z3, 0, none⟩) 1420 1420] 27)).alloc (.cells #[.int .u16 0, .int .u16 0, .int .u32 0, .int .u32 0, .int .u8 0, .int .u16 0, .int .u16 0, .slice (some ⟨z2, 0, none⟩) 1 1, .slice (some ⟨z3, 0, none⟩) 1420 1420] 27)).alloc (.cells #[.int .u16 0, .int .u16 0, .int .u32 0, .int .u32 0, .int .u8 0, .int .u16 0, .int .u16 0, .slice (some ⟨z2, 0, none⟩) 1 1, .slice (some ⟨z3, 0, none⟩) 1420 1420] 27)).drew = wx)
  case first =>
    as_aux_lemma =>
    go_region_held3 (fun w' => w'.cell? ⟨z4, 0, none⟩ = some (.int .u16 0) ∧ w'.cell? ⟨z4, 1, none⟩ = some (.int .u16 0) ∧ w'.cell? ⟨z4, 2, none⟩ = some (.int .u32 0) ∧ w'.cell? ⟨z4, 3, none⟩ = some (.int .u32 0) ∧ w'.cell? ⟨z4, 4, none⟩ = some (.int .u8 0) ∧ w'.cell? ⟨z4, 5, none⟩ = some (.int .u16 0) ∧ w'.cell? ⟨z4, 6, none⟩ = some (.int .u16 0) ∧ w'.cell? ⟨z4, 7, none⟩ = some (.slice (some ⟨z2, 0, none⟩) 1 1) ∧ w'.cell? ⟨z4, 8, none⟩ = some (.slice (some ⟨z3, 0, none⟩) 1420 1420)) (go_keep) (fail)
    all_goals
      go_wp2_with fail
      go_meet
      exact ⟨_, _, _, rfl, rfl, rfl, by unfold Three; omega, rfl⟩
  case rest =>
  obtain ⟨g2, g3, g4, rfl, rfl, rfl, hth, ew2⟩ := hcut
  obtain ⟨w2, rfl⟩ : ∃ w2, w2 = wc := ⟨_, rfl⟩
  clear c0 c1 c2 c3 c4 c5 c6 c7 c8 hn1 hn2 hn3 hn4 hq1 hq2 hq3
  obtain ⟨hab, hac, hbc, ha, hb, hc, ha', hb', hc'⟩ := hth
  have hA := three_blk wA (Obj.cells #[.int .u16 0, .int .u16 0, .int .u32 0, .int .u32 0, .int .u8 0, .int .u16 0, .int .u16 0, .slice (some ⟨z2, 0, none⟩) 1 1, .slice (some ⟨z3, 0, none⟩) 1420 1420] 27 (0, 0)) g2 ha ha'
  have hB := three_blk wA (Obj.cells #[.int .u16 0, .int .u16 0, .int .u32 0, .int .u32 0, .int .u8 0, .int .u16 0, .int .u16 0, .slice (some ⟨z2, 0, none⟩) 1 1, .slice (some ⟨z3, 0, none⟩) 1420 1420] 27 (0, 0)) g3 hb hb'
  have hC := three_blk wA (Obj.cells #[.int .u16 0, .int .u16 0, .int .u32 0, .int .u32 0, .int .u8 0, .int .u16 0, .int .u16 0, .slice (some ⟨z2, 0, none⟩) 1 1, .slice (some ⟨z3, 0, none⟩) 1420 1420] 27 (0, 0)) g4 hc hc'
  have hbw := (((Below.refl wA.heap.size wA).alloc (Nat.le_refl _) (Obj.cells #[.int .u16 0, .int .u16 0, .int .u32 0, .int .u32 0, .int .u8 0, .int .u16 0, .int .u16 0, .slice (some ⟨z2, 0, none⟩) 1 1, .slice (some ⟨z3, 0, none⟩) 1420 1420] 27 (0, 0))).alloc (by simp) (Obj.cells #[.int .u16 0, .int .u16 0, .int .u32 0, .int .u32 0, .int .u8 0, .int .u16 0, .int .u16 0, .slice (some ⟨z2, 0, none⟩) 1 1, .slice (some ⟨z3, 0, none⟩) 1420 1420] 27 (0, 0)) |>.alloc (by simp <;> omega) (Obj.cells #[.int .u16 0, .int .u16 0, .int .u32 0, .int .u32 0, .int .u8 0, .int .u16 0, .int .u16 0, .slice (some ⟨z2, 0, none⟩) 1 1, .slice (some ⟨z3, 0, none⟩) 1420 1420] 27 (0, 0)))
  have hbw := Below.drew hbw
  rw [ew2] at hA hB hC hbw
  have hFb := HF.out.b
  have hFs := hFb.size
  have H1 := Lib.hid (blk_on HF.out.h1 hbw)
  have H2 := Lib.hid (blk_on HF.out.h2 hbw)
  have H3 := Lib.hid (blk_on HF.out.h3 hbw)
  have H4 := Lib.hid (blk_on HF.out.h4 hbw)
  have HB0 := Lib.hid (below_trans HF.out.b hbw)
  have hz2 := lt_of_block HF.out.h2
  have Hlt := Lib.hid (show w.heap.size ≤ g2 ∧ w.heap.size ≤ g3 ∧ w.heap.size ≤ g4 ∧ z4 ≠ g2 ∧ z4 ≠ g3 ∧ z4 ≠ g4 ∧ g2 ≠ g3 ∧ g2 ≠ g4 ∧ g3 ≠ g4 by omega)
  have Hlz := Lib.hid (show (∀ k, k = z1 ∨ k = z2 ∨ k = z3 → k ≠ g2 ∧ k ≠ g3 ∧ k ≠ g4) from fun k hk => by
    have l1 := lt_of_block HF.out.h1
    have l3 := lt_of_block HF.out.h3
    rcases hk with rfl | rfl | rfl <;> omega)
  clear hab hac hbc ha hb hc ha' hb' hc' ew2 hbw hFb hFs hz2 hz4
  clear HF
  have HA := Lib.hid hA
  have HBk := Lib.hid hB
  have HC := Lib.hid hC
  clear hA hB hC
  have Hg3 := Lib.hid (show g2 < w2.heap.size ∧ g3 < w2.heap.size ∧ g4 < w2.heap.size from ⟨lt_of_block HA.out, lt_of_block HBk.out, lt_of_block HC.out⟩)
  -- the second segment's data
  obtain ⟨y1, hy1⟩ : ∃ y, w2.heap.size = y := ⟨_, rfl⟩
  obtain ⟨a0, a1, a2, a3, a4, a5, a6, a7, a8⟩ := seg_cells HA.out
  have af := blk_free HA.out
  have hg2 : g2 < w2.heap.size := lt_of_block HA.out
  have hgn : ¬ w2.heap.size = g2 := by omega
  have hgm : ¬ g2 = w2.heap.size := by omega
  have Hy1 := Lib.hid hy1
  rw [hy1] at hgn hgm hg2
  go_upto_region 4 with (fail)
  clear a0 a1 a2 a3 a4 a5 a6 a7 a8 af hgn hgm hy1
  have hy := Hy1.out
  have hset : But (fun k => k = g2) w2 (w2.setCell ⟨g2, 8, none⟩ (.slice (some ⟨y1, 0, none⟩) 1421 1421)) := (But.refl (fun k => k = g2) _).setCell (p := ⟨g2, 8, none⟩) rfl _
  have hbA : Below (w2.setCell ⟨g2, 8, none⟩ (.slice (some ⟨y1, 0, none⟩) 1421 1421)).heap.size (w2.setCell ⟨g2, 8, none⟩ (.slice (some ⟨y1, 0, none⟩) 1421 1421)) ((w2.setCell ⟨g2, 8, none⟩ (.slice (some ⟨y1, 0, none⟩) 1421 1421)).alloc (.cells (madeCells #[Value.int .u8 0] 1421) 5)) := (Below.refl _ _).alloc (Nat.le_refl _) _
  have hnew := blk_on (setCell_block (i := 8) HA.out (.slice (some ⟨y1, 0, none⟩) 1421 1421)) hbA
  simp at hnew
  have hrow := heap_alloc_new (w2.setCell ⟨g2, 8, none⟩ (.slice (some ⟨y1, 0, none⟩) 1421 1421)) (.cells (madeCells #[Value.int .u8 0] 1421) 5)
  rw [show (w2.setCell ⟨g2, 8, none⟩ (.slice (some ⟨y1, 0, none⟩) 1421 1421)).heap.size = w2.heap.size by simp [World.setCell], hy] at hrow
  have hl := Hlt.out
  have hlz := Hlz.out
  obtain ⟨w3, ex⟩ : ∃ x, (w2.setCell ⟨g2, 8, none⟩ (.slice (some ⟨y1, 0, none⟩) 1421 1421)).alloc (.cells (madeCells #[Value.int .u8 0] 1421) 5) = x := ⟨_, rfl⟩
  rw [ex] at hbA hnew hrow ⊢
  clear ex
  have H1 := Lib.hid (blk_on (hset.blk H1.out (fun e => by have := hlz z1 (.inl rfl); omega)) hbA)
  have H2 := Lib.hid (blk_on (hset.blk H2.out (fun e => by have := hlz z2 (.inr (.inl rfl)); omega)) hbA)
  have H3 := Lib.hid (blk_on (hset.blk H3.out (fun e => by have := hlz z3 (.inr (.inr rfl)); omega)) hbA)
  have H4 := Lib.hid (blk_on (hset.blk H4.out (by omega)) hbA)
  have HB0 := Lib.hid ((HB0.out.trans (hset.below (B := w.heap.size) (fun k hk => by omega) HB0.out.size)).trans (hbA.mono (by have := HB0.out.size; simp [World.setCell]; omega)))
  have HR1 := Lib.hid hrow
  have HA := Lib.hid hnew
  have HBk := Lib.hid (blk_on (hset.blk HBk.out (by omega)) hbA)
  have HC := Lib.hid (blk_on (hset.blk HC.out (by omega)) hbA)
  clear hy hbA hset hnew hrow hl hlz hg2
  have Hg4 := Lib.hid (show g4 < w3.heap.size from lt_of_block HC.out)
  -- the third one's options
  obtain ⟨y2, hy2⟩ : ∃ y, w3.heap.size = y := ⟨_, rfl⟩
  obtain ⟨a0, a1, a2, a3, a4, a5, a6, a7, a8⟩ := seg_cells HBk.out
  have af := blk_free HBk.out
  have hg2 : g3 < w3.heap.size := lt_of_block HBk.out
  have hgn : ¬ w3.heap.size = g3 := by omega
  have hgm : ¬ g3 = w3.heap.size := by omega
  have Hy2 := Lib.hid hy2
  rw [hy2] at hgn hgm hg2
  go_upto_region 5 with (fail)
  clear a0 a1 a2 a3 a4 a5 a6 a7 a8 af hgn hgm hy2
  have hy := Hy2.out
  have hset : But (fun k => k = g3) w3 (w3.setCell ⟨g3, 7, none⟩ (.slice (some ⟨y2, 0, none⟩) 1 1)) := (But.refl (fun k => k = g3) _).setCell (p := ⟨g3, 7, none⟩) rfl _
  have hbA : Below (w3.setCell ⟨g3, 7, none⟩ (.slice (some ⟨y2, 0, none⟩) 1 1)).heap.size (w3.setCell ⟨g3, 7, none⟩ (.slice (some ⟨y2, 0, none⟩) 1 1)) ((w3.setCell ⟨g3, 7, none⟩ (.slice (some ⟨y2, 0, none⟩) 1 1)).alloc (.cells #[.int .u8 1, .slice none 0 0] 39)) := (Below.refl _ _).alloc (Nat.le_refl _) _
  have hnew := blk_on (setCell_block (i := 7) HBk.out (.slice (some ⟨y2, 0, none⟩) 1 1)) hbA
  simp at hnew
  have hrow := heap_alloc_new (w3.setCell ⟨g3, 7, none⟩ (.slice (some ⟨y2, 0, none⟩) 1 1)) (.cells #[.int .u8 1, .slice none 0 0] 39)
  rw [show (w3.setCell ⟨g3, 7, none⟩ (.slice (some ⟨y2, 0, none⟩) 1 1)).heap.size = w3.heap.size by simp [World.setCell], hy] at hrow
  have hl := Hlt.out
  have hlz := Hlz.out
  obtain ⟨w4, ex⟩ : ∃ x, (w3.setCell ⟨g3, 7, none⟩ (.slice (some ⟨y2, 0, none⟩) 1 1)).alloc (.cells #[.int .u8 1, .slice none 0 0] 39) = x := ⟨_, rfl⟩
  rw [ex] at hbA hnew hrow ⊢
  clear ex
  have H1 := Lib.hid (blk_on (hset.blk H1.out (fun e => by have := hlz z1 (.inl rfl); omega)) hbA)
  have H2 := Lib.hid (blk_on (hset.blk H2.out (fun e => by have := hlz z2 (.inr (.inl rfl)); omega)) hbA)
  have H3 := Lib.hid (blk_on (hset.blk H3.out (fun e => by have := hlz z3 (.inr (.inr rfl)); omega)) hbA)
  have H4 := Lib.hid (blk_on (hset.blk H4.out (by omega)) hbA)
  have HB0 := Lib.hid ((HB0.out.trans (hset.below (B := w.heap.size) (fun k hk => by omega) HB0.out.size)).trans (hbA.mono (by have := HB0.out.size; simp [World.setCell]; omega)))
  have HR1 := Lib.hid (blk_on (hset.blk HR1.out (fun e => by have := Hy1.out; have h1 := Hg3.out; omega)) hbA)
  have HR2 := Lib.hid hrow
  have HBk := Lib.hid hnew
  have HA := Lib.hid (blk_on (hset.blk HA.out (by omega)) hbA)
  have HC := Lib.hid (blk_on (hset.blk HC.out (by omega)) hbA)
  clear hy hbA hset hnew hrow hl hlz hg2
  -- the fourth one's options
  obtain ⟨y3, hy3⟩ : ∃ y, w4.heap.size = y := ⟨_, rfl⟩
  have Hy3 := Lib.hid hy3
  obtain ⟨d0, d1, d2, d3, d4, d5, d6, d7, d8⟩ := seg_cells H4.out
  have hz4w : z4 < w4.heap.size := lt_of_block H4.out
  have hzn1 : ¬ w4.heap.size = z4 := by omega
  have hzn2 : ¬ z4 = w4.heap.size := by omega
  rw [hy3] at hzn1 hzn2
  have hq4 : (w4.alloc (.cells #[.int .u8 4, .slice none 0 0] 39)).cell? ⟨z4, 7, none⟩ = some (.slice (some ⟨z2, 0, none⟩) 1 1) := (((Below.refl w4.heap.size w4).alloc (Nat.le_refl _) _).cell (p := ⟨z4, 7, none⟩) hz4w).trans d7
  clear d0 d1 d2 d3 d4 d5 d6 d8
  have hb5 : Below w4.heap.size w4 (w4.alloc (.cells #[.int .u8 4, .slice none 0 0] 39)) := (Below.refl _ _).alloc (Nat.le_refl _) _
  have HX := Lib.hid (show (w4.alloc (.cells #[.int .u8 4, .slice none 0 0] 39)).heap[y3]? = some (.cells #[.int .u8 4, .slice none 0 0] 39 (0, 0)) by rw [← Hy3.out]; exact heap_alloc_new w4 _)
  have HOw := Lib.hid (opt_own _ y3 y3 4 none 0 0 (Nat.le_refl _) HX.out)
  have HRo := Lib.hid (opt_rd (blk_on H2.out hb5))
  have HC5 := Lib.hid (blk_on HC.out hb5)
  have HbA5 := Lib.hid hb5
  have hg4w : g4 < y3 := by rw [← hy3]; exact lt_of_block HC.out
  clear hb5
  go_upto_region 6 with ((refine wpList_appO rfl (.tmp 38) (.tmp 40) rfl y3 (some ⟨y3, 0, none⟩) (some ⟨z2, 0, none⟩) 1 1 1 1 [⟨4, none, 0, 0⟩] [⟨99, some ⟨z1, 0, none⟩, 38, 38⟩] rfl rfl HOw.out HRo.out (by omega) (by simp; omega) ?_; intro A6 c6 w6 hown6 _ hb6 _; have hC6 := (hb6.block g4 hg4w).trans HC5.out; obtain ⟨f0, f1, f2, f3, f4, f5, f6, f7, f8⟩ := seg_cells hC6; have ff := blk_free hC6))
  clear d7 hzn1 hzn2 hy3 hq4
  have hset : But (fun k => k = g4) w6 (w6.setCell ⟨g4, 7, none⟩ (.slice A6 2 c6)) := (But.refl (fun k => k = g4) _).setCell (p := ⟨g4, 7, none⟩) rfl _
  have hnew := setCell_block (i := 7) hC6 (.slice A6 2 c6)
  simp at hnew
  obtain ⟨w7, ew7⟩ : ∃ x, w6.setCell ⟨g4, 7, none⟩ (.slice A6 2 c6) = x := ⟨_, rfl⟩
  rw [ew7] at hset hnew ⊢
  clear ew7
  have hl := Hlt.out
  have hlz := Hlz.out
  have hb46 : Below w4.heap.size w4 w6 := HbA5.out.trans (hb6.mono (by rw [Hy3.out]; exact Nat.le_refl _))
  have H1 := Lib.hid (hset.blk (blk_on H1.out hb46) (fun e => by have := hlz z1 (.inl rfl); omega))
  have H2 := Lib.hid (hset.blk (blk_on H2.out hb46) (fun e => by have := hlz z2 (.inr (.inl rfl)); omega))
  have H3 := Lib.hid (hset.blk (blk_on H3.out hb46) (fun e => by have := hlz z3 (.inr (.inr rfl)); omega))
  have H4 := Lib.hid (hset.blk (blk_on H4.out hb46) (by omega))
  have HR1 := Lib.hid (hset.blk (blk_on HR1.out hb46) (fun e => by have := Hy1.out; have h1 := Hg3.out; omega))
  have hy2g : y2 ≠ g4 := by have h1 := lt_of_block HR2.out; have h2 := Hy2.out; have h3 := Hg4.out; omega
  have HR2 := Lib.hid (hset.blk (blk_on HR2.out hb46) hy2g)
  have HA := Lib.hid (hset.blk (blk_on HA.out hb46) (by omega))
  have HBk := Lib.hid (hset.blk (blk_on HBk.out hb46) (by omega))
  have HC := Lib.hid hnew
  have HO6 := Lib.hid (RdO.below_but hown6.rd hset (fun b o e h0 hk => by obtain ⟨g, eg, hgB, _⟩ := hown6.addr (by omega); rw [eg] at e; injection e with e; injection e with e1 _; omega))
  have Hcap := Lib.hid (And.intro hown6.cap hown6.capMax)
  have HB0 := Lib.hid ((below_trans HB0.out hb46).trans (hset.below (B := w.heap.size) (fun k hk => by omega) (below_trans HB0.out hb46).size))
  clear hset hnew hl hlz hb46 hb6 hC6 hown6 HX HOw HRo HC5 HbA5 hz4w hg4w hy2g
  have hnum0 : SegNum fullS := ⟨num0, num0, num00, num00, num8, num0, num0⟩
  have hK : ∀ kd : Int, 0 ≤ kd ∧ kd < 256 → ∀ (A : Option Addr) (n c : Nat) (l : List Int), n ≤ c → c ≤ maxLen → Rd w7 A n l → OptAt w7 ⟨kd, A, n, c⟩ (kd, l) := fun kd hk A n c l h1 h2 h3 => ⟨rfl, hk, h1, h2, h3⟩
  have o99 := hK 99 (by decide) (some ⟨z1, 0, none⟩) 38 38 _ (Nat.le_refl _) (by simp [maxLen]) (made_rd H1.out)
  have RF := Lib.hid (show SegRd w7 fullS (some ⟨z2, 0, none⟩) 1 1 [⟨99, some ⟨z1, 0, none⟩, 38, 38⟩] (some ⟨z3, 0, none⟩) 1420 1420 from ⟨⟨num0, num0, num00, num00, num8, num0, num0⟩, ⟨by omega, by simp [maxLen]⟩, ⟨by omega, by simp [maxLen]⟩, opt_rd H2.out, ⟨o99, trivial⟩, made_rd H3.out⟩)
  have RL := Lib.hid (show SegRd w7 longS (some ⟨z2, 0, none⟩) 1 1 [⟨99, some ⟨z1, 0, none⟩, 38, 38⟩] (some ⟨y1, 0, none⟩) 1421 1421 from ⟨⟨num0, num0, num00, num00, num8, num0, num0⟩, ⟨by omega, by simp [maxLen]⟩, ⟨by omega, by simp [maxLen]⟩, opt_rd H2.out, ⟨o99, trivial⟩, made_rd HR1.out⟩)
  have RO := Lib.hid (show SegRd w7 oddS (some ⟨y2, 0, none⟩) 1 1 [⟨1, none, 0, 0⟩] (some ⟨z3, 0, none⟩) 1420 1420 from ⟨⟨num0, num0, num00, num00, num8, num0, num0⟩, ⟨by omega, by simp [maxLen]⟩, ⟨by omega, by simp [maxLen]⟩, opt_rd HR2.out, ⟨hK 1 (by decide) none 0 0 [] (Nat.le_refl _) (by simp [maxLen]) (Rd.nil _ _), trivial⟩, made_rd H3.out⟩)
  have RM := Lib.hid (show SegRd w7 manyS A6 2 c6 [⟨4, none, 0, 0⟩, ⟨99, some ⟨z1, 0, none⟩, 38, 38⟩] (some ⟨z3, 0, none⟩) 1420 1420 from ⟨⟨num0, num0, num00, num00, num8, num0, num0⟩, Hcap.out, ⟨by omega, by simp [maxLen]⟩, HO6.out, ⟨hK 4 (by decide) none 0 0 [] (Nat.le_refl _) (by simp [maxLen]) (Rd.nil _ _), o99, trivial⟩, made_rd H3.out⟩)
  have hgF : Good fullS := ⟨hnum0, RF.out.os.byte, RF.out.d.byte, full_err⟩
  obtain ⟨LF, eLF⟩ : ∃ L, segB 1 2 fullS = L := ⟨_, rfl⟩
  have ELF := Lib.hid eLF
  have ByF := Lib.hid (show ∀ x ∈ LF, 0 ≤ x ∧ x < 256 by rw [← eLF]; exact hgF.bytes 1 2)
  have E13 := Lib.hid (show errSeg 1 3 LF = 20 by rw [← eLF, hgF.other 1 2 1 3, like_13]; rfl)
  clear hnum0 hK o99 hgF eLF H1 H2 H3 HR1 HR2 HO6 Hcap Hlt Hlz Hg3 Hg4 Hy1 Hy2 Hy3
  obtain ⟨a0, a1, a2, a3, a4, a5, a6, a7, a8⟩ := seg_cells H4.out
  go_wp2_with fail
  clear a0 a1 a2 a3 a4 a5 a6 a7 a8 H4
  refine (put6_told 1 2 fullS (some ⟨z2, 0, none⟩) 1 1 [⟨99, some ⟨z1, 0, none⟩, 38, 38⟩] (some ⟨z3, 0, none⟩) 1420 1420 _ LF 1480 (by omega) (by omega) RF.out full_err full_len ELF.out).mono ?_
  rintro e w8 ⟨A8, c8, rfl, k8, m8, ho8, hb8⟩
  have Hw := Lib.hid hb8
  have HB8 := Lib.hid (below_trans HB0.out hb8)
  have R8 := Lib.hid (ho8.rd ByF.out)
  have C8 := Lib.hid (And.intro k8 m8)
  obtain ⟨a0, a1, a2, a3, a4, a5, a6, a7, a8⟩ := seg_cells (blk_on HA.out Hw.out)
  clear hb8 ho8 k8 m8 RF
  go_wp2_with fail
  clear a0 a1 a2 a3 a4 a5 a6 a7 a8 HA
  refine (put6_err 1 2 longS (some ⟨z2, 0, none⟩) 1 1 [⟨99, some ⟨z1, 0, none⟩, 38, 38⟩] (some ⟨y1, 0, none⟩) 1421 1421 _ 3 (by omega) (by omega) (RL.out.below Hw.out) long_err (by decide)).mono ?_
  rintro e w9 ⟨rfl, hb9⟩
  have Hw := Lib.hid (below_trans Hw.out hb9)
  have HB9 := Lib.hid (below_trans HB8.out hb9)
  have R8 := Lib.hid (R8.out.below hb9)
  obtain ⟨a0, a1, a2, a3, a4, a5, a6, a7, a8⟩ := seg_cells (blk_on HBk.out Hw.out)
  clear hb9 RL
  go_wp2_with fail
  clear a0 a1 a2 a3 a4 a5 a6 a7 a8 HBk
  refine (put6_err 1 2 oddS (some ⟨y2, 0, none⟩) 1 1 [⟨1, none, 0, 0⟩] (some ⟨z3, 0, none⟩) 1420 1420 _ 1 (by omega) (by omega) (RO.out.below Hw.out) odd_err (by decide)).mono ?_
  rintro e w10 ⟨rfl, hb10⟩
  have Hw := Lib.hid (below_trans Hw.out hb10)
  have HB10 := Lib.hid (below_trans HB9.out hb10)
  have R8 := Lib.hid (R8.out.below hb10)
  obtain ⟨a0, a1, a2, a3, a4, a5, a6, a7, a8⟩ := seg_cells (blk_on HC.out Hw.out)
  clear hb10 RO
  go_wp2_with fail
  clear a0 a1 a2 a3 a4 a5 a6 a7 a8 HC
  refine (put6_err 1 2 manyS A6 2 c6 [⟨4, none, 0, 0⟩, ⟨99, some ⟨z1, 0, none⟩, 38, 38⟩] (some ⟨z3, 0, none⟩) 1420 1420 _ 3 (by omega) (by omega) (RM.out.below Hw.out) many_err (by decide)).mono ?_
  rintro e w11 ⟨rfl, hb11⟩
  have HB11 := Lib.hid (below_trans HB10.out hb11)
  have R8 := Lib.hid (R8.out.below hb11)
  clear hb11 RM Hw
  go_wp2_with fail
  obtain ⟨v11, ev⟩ : ∃ v, w11 = v := ⟨_, rfl⟩
  rw [ev] at HB11 R8 ⊢
  clear ev
  have Hm := Lib.hid (made_lit v11 (v11.heap.size) rfl 1481)
  have hcap : 1481 ≤ 1481 ∧ 1481 ≤ maxLen := ⟨Nat.le_refl _, by simp [maxLen]⟩
  refine (tparse_err 1 2 (some ⟨v11.heap.size, 0, none⟩) 1481 1481 (List.replicate 1481 0) 3 _ hcap Hm.out p_long (by decide)).mono ?_
  rintro e w12 ⟨rfl, hb12⟩
  have hb' := below_trans (below_alloc hb12) ((Below.refl w12.heap.size w12).alloc (Nat.le_refl _) (.cells #[.int .u16 0, .int .u16 0, .int .u32 0, .int .u32 0, .int .u8 0, .int .u16 0, .int .u16 0, .slice none 0 0, .slice none 0 0] 27))
  have HB12 := Lib.hid (below_trans HB11.out hb')
  have R8 := Lib.hid (R8.out.below hb')
  clear hb12 hb' Hm hcap
  go_wp2_with fail
  have hv12 := Lib.hid (show (w12.alloc (.cells #[.int .u16 0, .int .u16 0, .int .u32 0, .int .u32 0, .int .u8 0, .int .u16 0, .int .u16 0, .slice none 0 0, .slice none 0 0] 27)).heap.size = w12.heap.size + 1 by simp)
  obtain ⟨v12, ev⟩ : ∃ v, w12.alloc (.cells #[.int .u16 0, .int .u16 0, .int .u32 0, .int .u32 0, .int .u8 0, .int .u16 0, .int .u16 0, .slice none 0 0, .slice none 0 0] 27) = v := ⟨_, rfl⟩
  rw [ev] at HB12 R8 hv12 ⊢
  clear ev
  have Hm := Lib.hid (made_lit v12 (w12.heap.size + 1) hv12.out 19)
  have hcap : 19 ≤ 19 ∧ 19 ≤ maxLen := ⟨Nat.le_refl _, by simp [maxLen]⟩
  refine (tparse_err 1 2 (some ⟨w12.heap.size + 1, 0, none⟩) 19 19 (List.replicate 19 0) 4 _ hcap Hm.out p_short (by decide)).mono ?_
  rintro e w13 ⟨rfl, hb13⟩
  have hb' := below_trans (below_alloc hb13) ((Below.refl w13.heap.size w13).alloc (Nat.le_refl _) (.cells #[.int .u16 0, .int .u16 0, .int .u32 0, .int .u32 0, .int .u8 0, .int .u16 0, .int .u16 0, .slice none 0 0, .slice none 0 0] 27))
  have HB13 := Lib.hid (below_trans HB12.out hb')
  have R8 := Lib.hid (R8.out.below hb')
  clear hb13 hb' Hm hcap
  go_wp2_with fail
  have hv13 := Lib.hid (show (w13.alloc (.cells #[.int .u16 0, .int .u16 0, .int .u32 0, .int .u32 0, .int .u8 0, .int .u16 0, .int .u16 0, .slice none 0 0, .slice none 0 0] 27)).heap.size = w13.heap.size + 1 by simp)
  obtain ⟨v13, ev⟩ : ∃ v, w13.alloc (.cells #[.int .u16 0, .int .u16 0, .int .u32 0, .int .u32 0, .int .u8 0, .int .u16 0, .int .u16 0, .slice none 0 0, .slice none 0 0] 27) = v := ⟨_, rfl⟩
  rw [ev] at HB13 R8 hv13 ⊢
  clear ev
  have Hm := Lib.hid (made_lit v13 (w13.heap.size + 1) hv13.out 20)
  have hcap : 20 ≤ 20 ∧ 20 ≤ maxLen := ⟨Nat.le_refl _, by simp [maxLen]⟩
  refine (tparse_err 1 2 (some ⟨w13.heap.size + 1, 0, none⟩) 20 20 (List.replicate 20 0) 5 _ hcap Hm.out p_form (by decide)).mono ?_
  rintro e w14 ⟨rfl, hb14⟩
  have hb' := below_trans (below_alloc hb14) ((Below.refl w14.heap.size w14).alloc (Nat.le_refl _) (.cells #[.int .u16 0, .int .u16 0, .int .u32 0, .int .u32 0, .int .u8 0, .int .u16 0, .int .u16 0, .slice none 0 0, .slice none 0 0] 27))
  have HB14 := Lib.hid (below_trans HB13.out hb')
  have R8 := Lib.hid (R8.out.below hb')
  clear hb14 hb' Hm hcap
  go_wp2_with fail
  have hv14 := Lib.hid (show (w14.alloc (.cells #[.int .u16 0, .int .u16 0, .int .u32 0, .int .u32 0, .int .u8 0, .int .u16 0, .int .u16 0, .slice none 0 0, .slice none 0 0] 27)).heap.size = w14.heap.size + 1 by simp)
  obtain ⟨v14, ev⟩ : ∃ v, w14.alloc (.cells #[.int .u16 0, .int .u16 0, .int .u32 0, .int .u32 0, .int .u8 0, .int .u16 0, .int .u16 0, .slice none 0 0, .slice none 0 0] 27) = v := ⟨_, rfl⟩
  rw [ev] at HB14 R8 hv14 ⊢
  clear ev
  refine (tparse_err 1 3 A8 1480 c8 LF 20 _ C8.out R8.out E13.out (by decide)).mono ?_
  rintro e w15 ⟨rfl, hb15⟩
  have hb' := below_trans hb15 ((Below.refl w15.heap.size w15).alloc (Nat.le_refl _) (.cells #[.int .u16 0, .int .u16 0, .int .u32 0, .int .u32 0, .int .u8 0, .int .u16 0, .int .u16 0, .slice none 0 0, .slice none 0 0] 27))
  have HB15 := Lib.hid (below_trans HB14.out hb')
  clear hb15 hb' R8 C8 E13 ByF ELF
  go_wp2_with fail
  have hbo : Below w15.heap.size w15 (w15.alloc (.cells #[.int .u16 0, .int .u16 0, .int .u32 0, .int .u32 0, .int .u8 0, .int .u16 0, .int .u16 0, .slice none 0 0, .slice none 0 0] 27)) := (Below.refl _ _).alloc (Nat.le_refl _) _
  have hv15 : (w15.alloc (.cells #[.int .u16 0, .int .u16 0, .int .u32 0, .int .u32 0, .int .u8 0, .int .u16 0, .int .u16 0, .slice none 0 0, .slice none 0 0] 27)).heap.size = w15.heap.size + 1 := by simp
  clear hbo
  obtain ⟨v15, ev⟩ : ∃ v, w15.alloc (.cells #[.int .u16 0, .int .u16 0, .int .u32 0, .int .u32 0, .int .u8 0, .int .u16 0, .int .u16 0, .slice none 0 0, .slice none 0 0] 27) = v := ⟨_, rfl⟩
  rw [ev] at HB15 hv15 ⊢
  clear ev
  have hk := known_rd v15 _ hv15
  refine (put6_told 1 2 knownS (some ⟨w15.heap.size + 1, 0, none⟩) 1 1 [⟨4, none, 0, 0⟩] (some ⟨w15.heap.size + 1 + 1, 0, none⟩) 1 1 _ ownT 25 (by omega) (by omega) hk known_err known_len rfl).mono ?_
  rintro e w16 ⟨A16, c16, rfl, k16, m16, ho16, hb16⟩
  have hb' := below_trans (((Below.refl v15.heap.size v15).alloc (Nat.le_refl _) (.cells #[.int .u8 4, .slice none 0 0] 39)).alloc (by simp) (.cells #[.int .u8 9] 5)) hb16
  obtain ⟨g16, rfl, hg16, -⟩ := ho16.addr (by omega)
  have HB16 := Lib.hid (below_trans HB15.out hb')
  have RT := Lib.hid (ho16.rd ownT_bytes)
  have CT := Lib.hid (And.intro k16 m16)
  clear hb' hb16 ho16 k16 m16 hk hv15
  go_wp2_with fail
  have hb' : Below w16.heap.size w16 (w16.alloc (.cells #[.slice (some ⟨g16, 0, none⟩) 25 c16] 25)) := (Below.refl _ _).alloc (Nat.le_refl _) _
  have HBX := Lib.hid (Box.new w16 25 (.slice (some ⟨g16, 0, none⟩) 25 c16))
  have RT := Lib.hid (RT.out.below hb')
  have HB17 := Lib.hid (below_trans HB16.out hb')
  obtain ⟨q, hq⟩ : ∃ q, w16.heap.size = q := ⟨_, rfl⟩
  obtain ⟨w17, ev⟩ : ∃ v, w16.alloc (.cells #[.slice (some ⟨g16, 0, none⟩) 25 c16] 25) = v := ⟨_, rfl⟩
  rw [ev] at HBX RT HB17 ⊢
  rw [hq] at HBX ⊢
  clear ev hb' hq
  refine (spoil_told q g16 c16 12 12 64 5 w17 rfl (by decide) (by decide) (by decide) (by decide) e1 HBX.out RT.out).mono ?_
  rintro e w18 ⟨rfl, hb18⟩
  have HBX := Lib.hid (HBX.out.below hb18 HBX.out.lt)
  have RT := Lib.hid (RT.out.below hb18)
  have HB18 := Lib.hid (below_trans HB17.out hb18)
  clear hb18
  go_wp2_with fail
  refine (spoil_told q g16 c16 12 12 112 4 w18 rfl (by decide) (by decide) (by decide) (by decide) e2 HBX.out RT.out).mono ?_
  rintro e w19 ⟨rfl, hb19⟩
  have HBX := Lib.hid (HBX.out.below hb19 HBX.out.lt)
  have RT := Lib.hid (RT.out.below hb19)
  have HB19 := Lib.hid (below_trans HB18.out hb19)
  clear hb19
  go_wp2_with fail
  refine (spoil_told q g16 c16 12 12 111 0 w19 rfl (by decide) (by decide) (by decide) (by decide) e3 HBX.out RT.out).mono ?_
  rintro e w20 ⟨rfl, hb20⟩
  have HBX := Lib.hid (HBX.out.below hb20 HBX.out.lt)
  have RT := Lib.hid (RT.out.below hb20)
  have HB20 := Lib.hid (below_trans HB19.out hb20)
  clear hb20
  go_wp2_with fail
  refine (spoil_told q g16 c16 21 21 1 5 w20 rfl (by decide) (by decide) (by decide) (by decide) e4 HBX.out RT.out).mono ?_
  rintro e w21 ⟨rfl, hb21⟩
  have HBX := Lib.hid (HBX.out.below hb21 HBX.out.lt)
  have RT := Lib.hid (RT.out.below hb21)
  have HB21 := Lib.hid (below_trans HB20.out hb21)
  clear hb21
  go_wp2_with fail
  refine (spoil_told q g16 c16 21 21 9 5 w21 rfl (by decide) (by decide) (by decide) (by decide) e5 HBX.out RT.out).mono ?_
  rintro e w22 ⟨rfl, hb22⟩
  have HBX := Lib.hid (HBX.out.below hb22 HBX.out.lt)
  have RT := Lib.hid (RT.out.below hb22)
  have HB22 := Lib.hid (below_trans HB21.out hb22)
  clear hb22
  go_wp2_with fail
  refine (spoil_told q g16 c16 13 13 255 0 w22 rfl (by decide) (by decide) (by decide) (by decide) e6 HBX.out RT.out).mono ?_
  rintro e w23 ⟨rfl, hb23⟩
  have HBX := Lib.hid (HBX.out.below hb23 HBX.out.lt)
  have RT := Lib.hid (RT.out.below hb23)
  have HB23 := Lib.hid (below_trans HB22.out hb23)
  clear hb23
  go_wp2_with fail
  have hl := length_any ⟨0, 0, 0, 0, 255, 0, 0, [], [1]⟩ none 0 0 (some ⟨w23.heap.size, 0, none⟩) 1 1 (w23.alloc (.cells #[.int .u8 1] 5)) (by decide)
  rw [show lenS 255 1 = 3 by decide] at hl
  refine hl.mono ?_
  rintro e w24 ⟨rfl, hb24⟩
  have HB24 := Lib.hid (below_trans HB23.out (below_alloc hb24))
  clear hl hb24 HBX RT CT
  go_wp2_with fail
  refine (wakes_any _).mono ?_
  rintro e w25 ⟨rfl, hb25⟩
  have HB25 := Lib.hid (below_trans HB24.out hb25)
  clear hb25
  go_wp2_with fail
  go_ret
  exact ⟨rfl, HB25.out⟩
theorem own : ownKnob Try.prog.godebug = none := by kernel_rfl
theorem laidOut : laidOutB Try.prog = true := by kernel_rfl

set_option maxRecDepth 100000 in
theorem lifted (os : Os) (started : os.Started) (H : Type) (enc : TypeId × Value → H) :
    ReturnsInHanded {} Try.checked os 8 .any (Rows.tcpKnownSpec.pre6 enc Try.prog Try.f8 Rows.tcpKnownRow.domain false) (Rows.tcpKnownSpec.post enc Try.prog Try.f8 false true false false) := by
  refine returnsInHanded_of_change (C := Try.checked) own started (by kernel_rfl) Try.func8
    (ChangeSpec.witness6 (enc := enc) (C := Try.checked) false ⟨#[], #[], []⟩ 8 (by kernel_rfl) (by kernel_rfl) (by kernel_rfl) (by kernel_rfl)) ?_
  intro W base args ds gs before hval0 hW hcnd _
  have hval : ∀ (j : Nat) t v, Try.f8.params[j]? = some t → args[j]? = some v → Value.okWide Try.prog W .any base t v := hval0
  have hW' := hW
  obtain ⟨p, q, hA0, hV, rfl, hfz, hnd⟩ := hW
  have hA : DataW.TrodAll enc Try.prog W 0 (fun _ => true) true Try.f8.params.toList args.toList ds p := hA0
  rw [Try.params8] at hA hval
  obtain ⟨rfl, rfl, rfl⟩ := trodAll_none hA
  obtain ⟨rfl, rfl⟩ := trodVars_none hV
  clear hA0 hval0
  refine (walk W ).mono fun e W' ⟨he, bel⟩ => ?_
  subst he
  exact ⟨_, rfl, _, _, _, [], _, [], hW', trodAll_mk1 (shut_bool Try.underlying4 _), trodAll_mk0, rfl, bel.frame _, fun h => by cases h⟩

theorem over : Rows.tcpKnownRow.holds Try.pinned (OpenSpec.ofChange Rows.tcpKnownSpec) :=
  OpenClaim.holds_of_wide 8 Try.f8 rfl rfl rfl rfl rfl rfl rfl ⟨rfl, rfl, rfl, rfl, rfl⟩ rfl rfl rfl rfl rfl (by kernel_rfl) Try.func8 (by kernel_rfl)
    (of_decide_eq_true (by kernel_rfl)) (by unfold Func.isWrapper; first | (rw [if_pos (by decide +kernel)]; kernel_rfl) | (rw [if_neg (by decide +kernel)]; exact ⟨rfl, rfl⟩))
    (fun os started H enc _ => lifted os started H enc)

/-- The statement. -/
theorem proved : Rows.TcpKnownSaid := over
#print axioms proved
end Go.Proofs.Ytoblllgefmajiaa.tcpKnown
