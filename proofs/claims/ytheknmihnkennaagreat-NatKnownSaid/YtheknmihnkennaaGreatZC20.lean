/-
  Texts laid together: UdpPut, Ref03, UdpRef, IcmpRefPut.
-/
import Derived.Test.YtheknmihnkennaaGreatZC19
import Derived.Deep.CutRange
import Derived.Test.YtheknmihnkennaaGreatZC04
import Derived.Test.YtheknmihnkennaaGreatZC05
import Derived.Test.YtheknmihnkennaaGreatZC03
import Derived.Lib.Hide
import Derived.IntWalk
import Derived.Deep.LoopGhost
import Derived.LoopTactic
import Derived.Outline
import Derived.Laws.BitsLemmas

/-
  The contract of package udp's Put.
-/
namespace Go.Proofs.YtheknmihnkennaaGreat
set_option maxRecDepth 10000
open Go.RowKit

/-- A row of slices that the walk has just laid, in a world in which nothing but S has turned since. -/
theorem RdL.rowBut {S : Nat → Prop} (w w' : World) (g : Nat) (hg : w.heap.size = g) (t : TypeId) (vs : List Value) (ls : List (List Int)) (n : Nat) (hn : ls.length = n) (hb : But S (w.alloc (.cells vs.toArray t)) w') (hS : ¬ S g)
    (h : ∀ i, i < n → ∃ Ai ci, vs[i]? = some (.slice Ai (ls.getD i []).length ci) ∧ (ls.getD i []).length ≤ ci ∧ ci ≤ maxLen ∧ Rd w Ai (ls.getD i []).length (ls.getD i []) ∧ ∀ k o, Ai = some ⟨k, o, none⟩ → 0 < (ls.getD i []).length → ¬ S k) :
    RdL w' (some ⟨g, 0, none⟩) n ls := by
  subst hg; subst hn
  refine ⟨rfl, fun _ => ⟨w.heap.size, 0, rfl, hb.lt (by simp), fun i hi => ?_⟩⟩
  obtain ⟨Ai, ci, h1, h2, h3, h4, h5⟩ := h i hi
  refine ⟨Ai, ci, ?_, h2, h3, (h4.below ((Below.refl _ _).alloc (Nat.le_refl _) _)).but hb h5⟩
  rw [hb.cell (p := ⟨w.heap.size, 0 + i, none⟩) (by simp) hS, World.cell?_alloc_mark]
  simpa using h1
theorem RdL.threeBut {S : Nat → Prop} (w w' : World) (g : Nat) (hg : w.heap.size = g) (t : TypeId) (A B C : Option Addr) (n c n1 c1 n2 c2 : Nat) (l l1 l2 : List Int) (hb : But S (w.alloc (.cells #[.slice A n c, .slice B n1 c1, .slice C n2 c2] t)) w') (hS : ¬ S g)
    (hc : n ≤ c ∧ c ≤ maxLen) (hc1 : n1 ≤ c1 ∧ c1 ≤ maxLen) (hc2 : n2 ≤ c2 ∧ c2 ≤ maxLen) (h : Rd w A n l) (h1 : Rd w B n1 l1) (h2 : Rd w C n2 l2) (s : ∀ k o, A = some ⟨k, o, none⟩ → ¬ S k) (s1 : ∀ k o, B = some ⟨k, o, none⟩ → ¬ S k) (s2 : ∀ k o, C = some ⟨k, o, none⟩ → ¬ S k) :
    RdL w' (some ⟨g, 0, none⟩) 3 [l, l1, l2] := by
  have := h.len; have := h1.len; have := h2.len
  subst n n1 n2
  refine RdL.rowBut w w' g hg t [.slice A l.length c, .slice B l1.length c1, .slice C l2.length c2] _ 3 rfl hb hS (fun i hi => ?_)
  match i, hi with
  | 0, _ => exact ⟨A, c, rfl, hc.1, hc.2, h, fun k o e _ => s k o e⟩
  | 1, _ => exact ⟨B, c1, rfl, hc1.1, hc1.2, h1, fun k o e _ => s1 k o e⟩
  | 2, _ => exact ⟨C, c2, rfl, hc2.1, hc2.2, h2, fun k o e _ => s2 k o e⟩
theorem RdL.twoBut {S : Nat → Prop} (w w' : World) (g : Nat) (hg : w.heap.size = g) (t : TypeId) (A B : Option Addr) (n c n1 c1 : Nat) (l l1 : List Int) (hb : But S (w.alloc (.cells #[.slice A n c, .slice B n1 c1] t)) w') (hS : ¬ S g)
    (hc : n ≤ c ∧ c ≤ maxLen) (hc1 : n1 ≤ c1 ∧ c1 ≤ maxLen) (h : Rd w A n l) (h1 : Rd w B n1 l1) (s : ∀ k o, A = some ⟨k, o, none⟩ → ¬ S k) (s1 : ∀ k o, B = some ⟨k, o, none⟩ → 0 < n1 → ¬ S k) :
    RdL w' (some ⟨g, 0, none⟩) 2 [l, l1] := by
  have := h.len; have := h1.len
  subst n n1
  refine RdL.rowBut w w' g hg t [.slice A l.length c, .slice B l1.length c1] _ 2 rfl hb hS (fun i hi => ?_)
  match i, hi with
  | 0, _ => exact ⟨A, c, rfl, hc.1, hc.2, h, fun k o e _ => s k o e⟩
  | 1, _ => exact ⟨B, c1, rfl, hc1.1, hc1.2, h1, fun k o e h0 => s1 k o e h0⟩
theorem RdL.threeU (w : World) (g : Nat) (hg : w.heap.size = g) (t : TypeId) (A B C : Option Addr) (n c n1 c1 n2 c2 : Nat) (l l1 l2 : List Int)
    (hc : n ≤ c ∧ c ≤ maxLen) (hc1 : n1 ≤ c1 ∧ c1 ≤ maxLen) (hc2 : n2 ≤ c2 ∧ c2 ≤ maxLen) (h : Rd w A n l) (h1 : Rd w B n1 l1) (h2 : Rd w C n2 l2) :
    RdL (w.alloc (.cells #[.slice A n c, .slice B n1 c1, .slice C n2 c2] t)) (some ⟨g, 0, none⟩) 3 [l, l1, l2] :=
  RdL.threeBut (S := fun _ => False) w _ g hg t A B C n c n1 c1 n2 c2 l l1 l2 (But.refl _ _) (fun h => h) hc hc1 hc2 h h1 h2 (fun _ _ _ h => h) (fun _ _ _ h => h) (fun _ _ _ h => h)

def UPutBad (w : World) (e : Ending) (w' : World) : Prop := e = .returned (.tuple #[.slice none 0 0, .int .i64 3]) ∧ Below w.heap.size w w'
def UPutOk (m : Nat) (l : List Int) (w : World) (e : Ending) (w' : World) : Prop :=
  ∃ A c, e = .returned (.tuple #[.slice A m c, .int .i64 0]) ∧ m ≤ c ∧ c ≤ maxLen ∧ OwnB w' w.heap.size A m c l ∧ Below w.heap.size w w'

theorem uput_bad (src dst sp dp : Int) (A : Option Addr) (n c : Nat) (w : World) (hn : 1472 < n) :
    Calls Tryz.prog 63 #[.int .u32 src, .int .u32 dst, .agg #[.int .u16 sp, .int .u16 dp, .slice A n c]] w (UPutBad w) := by
  have hni : (1472 : Int) < (n : Int) := by omega
  have Hb := Lib.hid ((Below.refl w.heap.size w).alloc (Nat.le_refl _) (.cells #[.int .u16 sp, .int .u16 dp, .slice A n c] 31))
  go_enter Tryz.func63, Tryz.ntmps63
  go_wp2_with fail
  go_ret2
  exact ⟨rfl, Hb.out⟩

theorem cells3 {w : World} {g : Nat} {u0 u1 u2 : Value} {t : TypeId} (h : w.heap[g]? = some (.cells #[u0, u1, u2] t (0, 0))) : w.cell? ⟨g, 0, none⟩ = some u0 ∧ w.cell? ⟨g, 1, none⟩ = some u1 ∧ w.cell? ⟨g, 2, none⟩ = some u2 := ⟨by rw [blk_cell h]; rfl, by rw [blk_cell h]; rfl, by rw [blk_cell h]; rfl⟩
theorem apt {A : Option Addr} {B m p : Nat} (h : ∃ g, A = some ⟨g, 0, none⟩ ∧ B ≤ g ∧ g < m) (hp : p < B) : ∀ k o, A = some ⟨k, o, none⟩ → ¬ (k = p ∨ none = some (⟨k, 0, none⟩ : Addr)) := by
  obtain ⟨g, rfl, h1, _⟩ := h
  intro k o e hh
  injection e with e
  injection e with e _
  rcases hh with hh | hh
  · omega
  · cases hh

theorem uput_ok (src dst : Int) (s : Dg) (A : Option Addr) (n c : Nat) (w : World) (hnum : DgNum s) (hc : n ≤ c ∧ c ≤ maxLen) (hr : Rd w A n s.d) (hn : n ≤ 1472) :
    Calls Tryz.prog 63 #[.int .u32 src, .int .u32 dst, .agg #[.int .u16 s.sp, .int .u16 s.dp, .slice A n c]] w (UPutOk (8 + n) (dgB src dst s) w) := by
  have hmf : ∀ (fn : Fn) (first cap : Array Value) (w : World), (Instr.makeFunc fn first cap).run Tryz.prog w = .ok (.func fn first cap) w := fun _ _ _ _ => rfl
  obtain ⟨sp, dp, d⟩ := s
  simp only at hr ⊢
  have hni : (n : Int) ≤ 1472 := by omega
  have hlen := hr.len
  obtain ⟨z, hz⟩ : ∃ z, w.heap.size = z := ⟨_, rfl⟩
  have hk := heap_alloc_new w (.cells #[.int .u16 sp, .int .u16 dp, .slice A n c] 31)
  have hx := Box.new (w.alloc (.cells #[.int .u16 sp, .int .u16 dp, .slice A n c] 31)) 22 (.slice none 0 0)
  have hb0 := ((Below.refl w.heap.size w).alloc (Nat.le_refl _) (.cells #[.int .u16 sp, .int .u16 dp, .slice A n c] 31)).alloc (by simp) (.cells #[.slice none 0 0] 22)
  have hk1 := (Below.heap_alloc _ (.cells #[.slice none 0 0] 22) _ (lt_of_block hk)).trans hk
  obtain ⟨w1, ew1⟩ : ∃ w1, ((w.alloc (.cells #[.int .u16 sp, .int .u16 dp, .slice A n c] 31)).alloc (.cells #[.slice none 0 0] 22)) = w1 := ⟨_, rfl⟩
  have hs1 : w1.heap.size = z + 2 := by rw [← ew1, ← hz]; simp
  have hx1 : Box w1 (z + 1) 22 (.slice none 0 0) := by rw [← ew1, ← hz]; simpa using hx
  rw [ew1] at hb0 hk1
  rw [hz] at hk1
  have Hk0 := Lib.hid hk1
  have Hx0 := Lib.hid hx1
  have Hb0 := Lib.hid hb0
  have Hd0 := Lib.hid (hr.below hb0)
  have Hdz := Lib.hid (show ∀ k o, A = some ⟨k, o, none⟩ → 0 < n → k < z from fun k o e h0 => by
    obtain ⟨b, o', e', hlt, _⟩ := hr.at_ h0
    rw [e] at e'; injection e' with e'; injection e' with e' _; omega)
  have Hc := Lib.hid hc
  have Hnum := Lib.hid hnum
  have Hlen := Lib.hid hlen
  have Hs1 := Lib.hid hs1
  have Hz := Lib.hid hz
  have hw16 : IntKind.u16.wrap (8 + (n : Int)) = 8 + (n : Int) := by simp [IntKind.wrap, IntKind.bits, IntKind.signed]; omega
  have Hlg := Lib.hid (show 0 ≤ 8 + (n : Int) ∧ 8 + (n : Int) < 65536 by omega)
  clear hk hx hb0 hk1 hx1 hr hc hnum hlen hs1
  go_enter Tryz.func63, Tryz.ntmps63
  obtain ⟨q0, q1, q2⟩ := cells3 Hk0.out
  go_wp2_with fail
  refine wp_region_held_drew (S := fun w' => w'.cell? ⟨z, 0, none⟩ = some (.int .u16 sp) ∧ w'.cell? ⟨z, 1, none⟩ = some (.int .u16 dp) ∧ w'.cell? ⟨z, 2, none⟩ = some (.slice A n c)) (by kernel_rfl) (cells3 Hk0.out) (fun hHeld => ?_)
  have hdr : Below w1.heap.size w1 w1.drew := Below.drew (Below.refl _ _)
  have Hk1 := Lib.hid (blk_on Hk0.out hdr)
  have Hx1 := Lib.hid (Hx0.out.below hdr (by have := Hs1.out; omega))
  have Hd1 := Lib.hid (Hd0.out.below hdr)
  have Hb1 := Lib.hid (below_trans Hb0.out hdr)
  have Hs1 := Lib.hid (show w1.drew.heap.size = z + 2 from Hs1.out)
  clear hdr q0 q1 q2
  obtain ⟨wd, ewd⟩ : ∃ wd, w1.drew = wd := ⟨_, rfl⟩
  rw [ewd] at Hk1 Hx1 Hd1 Hb1 Hs1 hHeld ⊢
  clear ewd
  refine wpAnyH_take (i := 0) (oi := { dst := some 21, op := Go.Op.move (Go.Operand.tmp 9), type := 156, pos := "udp.go:53", after := #[], guard := none }) (v := ?_) rfl (by kernel_rfl) (by kernel_rfl) (by kernel_rfl) (fun _ _ _ h => h) (Or.inl ⟨by rfl, ?_⟩) (by assumption) ?_
  rotate_left 1
  · intro w' hSw; (go_simp <;> (with_reducible rfl))
  (try simp only [Act.put, List.setIfInBounds_toArray, List.set_cons_zero, List.set_cons_succ])
  refine wpAnyH_take (i := 1) (oi := { dst := some 22, op := Go.Op.fieldAddr 31 (Go.Operand.tmp 5) 0, type := 0, pos := "udp.go:53", after := #[], guard := none }) (v := ?_) rfl (by kernel_rfl) (by kernel_rfl) (by kernel_rfl) (fun _ _ _ h => h) (Or.inl ⟨by rfl, ?_⟩) (by assumption) ?_
  rotate_left 1
  · intro w' hSw; (go_simp <;> (with_reducible rfl))
  (try simp only [Act.put, List.setIfInBounds_toArray, List.set_cons_zero, List.set_cons_succ])
  refine wpAnyH_take (i := 2) (oi := { dst := some 23, op := Go.Op.load 23 (Go.Operand.tmp 22), type := 23, pos := "udp.go:53", after := #[{ on := 1, ground := Go.Ground.data }], guard := none }) (v := ?_) rfl (by kernel_rfl) (by kernel_rfl) (by kernel_rfl) (fun _ _ _ h => h) (Or.inl ⟨by rfl, ?_⟩) (by assumption) ?_
  rotate_left 1
  · intro w' hSw; (go_simp <;> (with_reducible rfl))
  (try simp only [Act.put, List.setIfInBounds_toArray, List.set_cons_zero, List.set_cons_succ])
  refine wpAnyH_take (i := 4) (oi := { dst := some 25, op := Go.Op.fieldAddr 31 (Go.Operand.tmp 5) 1, type := 0, pos := "udp.go:53", after := #[], guard := none }) (v := ?_) rfl (by kernel_rfl) (by kernel_rfl) (by kernel_rfl) (fun _ _ _ h => h) (Or.inl ⟨by rfl, ?_⟩) (by assumption) ?_
  rotate_left 1
  · intro w' hSw; (go_simp <;> (with_reducible rfl))
  (try simp only [Act.put, List.setIfInBounds_toArray, List.set_cons_zero, List.set_cons_succ])
  refine wpAnyH_take (i := 5) (oi := { dst := some 26, op := Go.Op.load 23 (Go.Operand.tmp 25), type := 23, pos := "udp.go:53", after := #[{ on := 4, ground := Go.Ground.data }], guard := none }) (v := ?_) rfl (by kernel_rfl) (by kernel_rfl) (by kernel_rfl) (fun _ _ _ h => h) (Or.inl ⟨by rfl, ?_⟩) (by assumption) ?_
  rotate_left 1
  · intro w' hSw; (go_simp <;> (with_reducible rfl))
  (try simp only [Act.put, List.setIfInBounds_toArray, List.set_cons_zero, List.set_cons_succ])
  refine wpAnyH_take (i := 7) (oi := { dst := some 28, op := Go.Op.move (Go.Operand.tmp 10), type := 3, pos := "udp.go:53", after := #[], guard := none }) (v := ?_) rfl (by kernel_rfl) (by kernel_rfl) (by kernel_rfl) (fun _ _ _ h => h) (Or.inl ⟨by rfl, ?_⟩) (by assumption) ?_
  rotate_left 1
  · intro w' hSw; (go_simp <;> (with_reducible rfl))
  (try simp only [Act.put, List.setIfInBounds_toArray, List.set_cons_zero, List.set_cons_succ])
  refine wpAnyH_take (i := 8) (oi := { dst := some 29, op := Go.Op.convert 3 23 (Go.Operand.tmp 28), type := 23, pos := "udp.go:53", after := #[{ on := 7, ground := Go.Ground.data }], guard := none }) (v := ?_) rfl (by kernel_rfl) (by kernel_rfl) (by kernel_rfl) (fun _ _ _ h => h) (Or.inl ⟨by rfl, ?_⟩) (by assumption) ?_
  rotate_left 1
  · intro w' hSw; (go_simp <;> (with_reducible rfl))
  (try simp only [Act.put, List.setIfInBounds_toArray, List.set_cons_zero, List.set_cons_succ])
  refine wpAnyH_ready (rs := [3]) (by kernel_rfl) (by simp) ?_
  refine AllReadyH.cons (o := { dst := some 24, op := Go.Op.call { callee := Go.Callee.value (Go.Operand.func 98), args := #[Go.Operand.tmp 23], argTypes := #[23] }, type := 22, pos := "udp.go:53", after := #[{ on := 2, ground := Go.Ground.data }], guard := none }) rfl (fun K hK => ?_) AllReadyH.nil
  go_simp
  (go_at_call 98; refine (word_row sp _ Hnum.out.sp).mono ?_; rintro e w2 ⟨A2, c2, rfl, k2, m2, ho2, hb2⟩; have Hr2 := Lib.hid (ho2.rd (be16_bytes Hnum.out.sp)); have Hs2 := Lib.hid (ho2.addr (by omega)); have Hk2 := Lib.hid (blk_on Hk1.out hb2); have Hb2 := Lib.hid hb2; clear ho2 hb2)
  refine hK.out _ _ ?_ (fun hHeld => ?_)
  · exact cells3 Hk2.out
  clear hK K
  (try simp only [Act.put, List.setIfInBounds_toArray, List.set_cons_zero, List.set_cons_succ])
  refine wpAnyH_ready (rs := [6]) (by kernel_rfl) (by simp) ?_
  refine AllReadyH.cons (o := { dst := some 27, op := Go.Op.call { callee := Go.Callee.value (Go.Operand.func 98), args := #[Go.Operand.tmp 26], argTypes := #[23] }, type := 22, pos := "udp.go:53", after := #[{ on := 5, ground := Go.Ground.data }, { on := 3, ground := Go.Ground.chain }], guard := none }) rfl (fun K hK => ?_) AllReadyH.nil
  go_simp
  (go_at_call 98; refine (word_row dp _ Hnum.out.dp).mono ?_; rintro e w3 ⟨A3, c3, rfl, k3, m3, ho3, hb3⟩; have Hr3 := Lib.hid (ho3.rd (be16_bytes Hnum.out.dp)); have Hs3 := Lib.hid (ho3.addr (by omega)); have Hk3 := Lib.hid (blk_on Hk2.out hb3); have Hb3 := Lib.hid hb3; clear ho3 hb3)
  refine hK.out _ _ ?_ (fun hHeld => ?_)
  · exact cells3 Hk3.out
  clear hK K
  (try simp only [Act.put, List.setIfInBounds_toArray, List.set_cons_zero, List.set_cons_succ])
  refine wpAnyH_ready (rs := [9]) (by kernel_rfl) (by simp) ?_
  refine AllReadyH.cons (o := { dst := some 30, op := Go.Op.call { callee := Go.Callee.value (Go.Operand.func 98), args := #[Go.Operand.tmp 29], argTypes := #[23] }, type := 22, pos := "udp.go:53", after := #[{ on := 8, ground := Go.Ground.data }, { on := 6, ground := Go.Ground.chain }], guard := none }) rfl (fun K hK => ?_) AllReadyH.nil
  go_simp
  (go_at_call 98; refine (word_row (8 + (n : Int)) _ Hlg.out).mono ?_; rintro e w4 ⟨A4, c4, rfl, k4, m4, ho4, hb4⟩; have Hr4 := Lib.hid (ho4.rd (be16_bytes Hlg.out)); have Hs4 := Lib.hid (ho4.addr (by omega)); have Hk4 := Lib.hid (blk_on Hk3.out hb4); have Hb4 := Lib.hid hb4; clear ho4 hb4)
  refine hK.out _ _ ?_ (fun hHeld => ?_)
  · exact cells3 Hk4.out
  clear hK K
  (try simp only [Act.put, List.setIfInBounds_toArray, List.set_cons_zero, List.set_cons_succ])
  refine wpAnyH_ready (rs := [10]) (by kernel_rfl) (by simp) ?_
  refine AllReadyH.cons (o := { dst := some 31, op := Go.Op.buildSlice 132 3 #[(0, Go.Operand.tmp 24), (1, Go.Operand.tmp 27), (2, Go.Operand.tmp 30)], type := 132, pos := "udp.go:53", after := #[{ on := 3, ground := Go.Ground.data }, { on := 6, ground := Go.Ground.data }, { on := 9, ground := Go.Ground.data }], guard := none }) rfl (fun K hK => ?_) AllReadyH.nil
  go_simp
  skip
  refine hK.out _ _ ?_ (fun hHeld => ?_)
  · exact cells3 (blk_on Hk4.out ((Below.refl _ _).alloc (Nat.le_refl _) _))
  clear hK K
  (try simp only [Act.put, List.setIfInBounds_toArray, List.set_cons_zero, List.set_cons_succ])
  refine wpAnyH_ready (rs := [11]) (by kernel_rfl) (by simp) ?_
  refine AllReadyH.cons (o := { dst := some 32, op := Go.Op.call { callee := Go.Callee.value (Go.Operand.tmp 21), args := #[Go.Operand.tmp 31], argTypes := #[132] }, type := 0, pos := "udp.go:53", after := #[{ on := 0, ground := Go.Ground.data }, { on := 10, ground := Go.Ground.data }, { on := 9, ground := Go.Ground.chain }], guard := none }) rfl (fun K hK => ?_) AllReadyH.nil
  go_simp
  (go_at_call 97; refine (ulay_any (z + 2) (z + 1) _ 3 3 [be16 sp, be16 dp, be16 (8 + (n : Int))] none 0 0 [] 6 _ (by omega) (by omega) (by have := Hs1.out; have := Hb2.out.size; have := Hb3.out.size; have := Hb4.out.size; simp; omega) (((((Hx1.out.below Hb2.out (by have := Hs1.out; omega)).below Hb3.out (by have := Hs1.out; have := Hb2.out.size; omega)).below Hb4.out (by have := Hs1.out; have := Hb2.out.size; have := Hb3.out.size; omega))).alloc _) (OwnB.nil _ _) (fun w' hb => RdL.threeBut w4 w' _ rfl 22 A2 A3 A4 2 c2 2 c3 2 c4 _ _ _ hb (by have := Hs1.out; have := Hb2.out.size; have := Hb3.out.size; have := Hb4.out.size; simp; omega) ⟨k2, m2⟩ ⟨k3, m3⟩ ⟨k4, m4⟩ ((Hr2.out.below Hb3.out).below Hb4.out) (Hr3.out.below Hb4.out) Hr4.out (apt Hs2.out (by have := Hs1.out; omega)) (apt Hs3.out (by have := Hs1.out; have := Hb2.out.size; omega)) (apt Hs4.out (by have := Hs1.out; have := Hb2.out.size; have := Hb3.out.size; omega))) (by simp [be16]) (by omega)).mono ?_; rintro e w5 ⟨rfl, ⟨A5, c5, hx5, ho5⟩, hb5⟩; have Hk5 := Lib.hid (hb5.blk (blk_on Hk4.out ((Below.refl _ _).alloc (Nat.le_refl _) _)) (by simp)); have Hx5 := Lib.hid hx5; have Ho5 := Lib.hid ho5; have Hb5 := Lib.hid hb5; clear hx5 ho5 hb5)
  refine hK.out _ _ ?_ (fun hHeld => ?_)
  · exact cells3 Hk5.out
  clear hK K
  (try simp only [Act.put, List.setIfInBounds_toArray, List.set_cons_zero, List.set_cons_succ])
  refine wpAnyH_done (by kernel_rfl) ?_ _
  have Hsz := Lib.hid (show z + 2 ≤ w4.heap.size by have := Hs1.out; have := Hb2.out.size; have := Hb3.out.size; have := Hb4.out.size; omega)
  have Hba := Lib.hid (below_trans Hb1.out (below_trans Hb2.out (below_trans Hb3.out (below_trans Hb4.out ((Below.refl _ _).alloc (Nat.le_refl _) (.cells #[.slice A2 2 c2, .slice A3 2 c3, .slice A4 2 c4] 22))))))
  have Hd5 := Lib.hid ((((((Hd1.out.below Hb2.out).below Hb3.out).below Hb4.out).below ((Below.refl _ _).alloc (Nat.le_refl _) (.cells #[.slice A2 2 c2, .slice A3 2 c3, .slice A4 2 c4] 22))).but Hb5.out (fun g o e h0 hh => by
    have := Hdz.out g o e h0
    rcases hh with hh | hh
    · omega
    · cases hh)))
  have Hbw := Lib.hid (Hba.out.trans (Hb5.out.below (B := w.heap.size) (fun k hk => by
    have := Hz.out
    rcases hk with hk | hk
    · omega
    · cases hk) (by have := Hsz.out; have := Hz.out; simp; omega)))
  have hf : ([] ++ [be16 sp, be16 dp, be16 (8 + (n : Int))].flatten : List Int) = hdU ⟨sp, dp, d⟩ := by simp [hdU, Hlen.out]
  rw [hf, show 0 + 6 = 6 from rfl] at Ho5
  rw [show 0 + 6 = 6 from rfl] at Hx5
  have Hr5 := Lib.hid (Ho5.out.rd (hdU_bytes Hnum.out (by have := Hlen.out; show d.length ≤ 1472; omega)))
  have Hc5 := Lib.hid (And.intro Ho5.out.cap Ho5.out.capMax)
  have Hs5 := Lib.hid (show z + 2 ≤ w5.heap.size by have := Hsz.out; have := Hb5.out.size; simp at this; omega)
  obtain ⟨fd, efd⟩ : ∃ fd, fieldU src dst ⟨sp, dp, d⟩ = fd := ⟨_, rfl⟩
  have Hfdb := Lib.hid (show 0 ≤ fd ∧ fd < 65536 by rw [← efd]; have : 0 < fieldU src dst ⟨sp, dp, d⟩ ∧ fieldU src dst ⟨sp, dp, d⟩ < 65536 := fldU_bd _; omega)
  have Hfd := Lib.hid (show fldU ([pseudoL src dst 17 (8 + (n : Int)), hdU ⟨sp, dp, d⟩, d] : List (List Int)).flatten = fd by rw [← efd]; unfold fieldU; rw [Hlen.out]; simp)
  have Efd := Lib.hid efd
  clear efd hf Hk1 Hk2 Hk3 Hk4 Hx1 Hd1 Hb1 Hs1 Hs2 Hs3 Hs4 Hr2 Hr3 Hr4 Hb2 Hb3 Hb4 Hb5 Hba Hsz hHeld k2 m2 k3 m3 k4 m4
  obtain ⟨A5v, eA5⟩ : ∃ A5v, A5 = A5v := ⟨_, rfl⟩
  subst eA5
  go_wp2_with fail
  refine wp_region_held_drew (S := fun w' => w'.cell? ⟨z, 0, none⟩ = some (.int .u16 sp) ∧ w'.cell? ⟨z, 1, none⟩ = some (.int .u16 dp) ∧ w'.cell? ⟨z, 2, none⟩ = some (.slice A n c) ∧ w'.cell? ⟨z + 1, 0, none⟩ = some (.slice A5 6 c5)) (by kernel_rfl) ⟨(cells3 Hk5.out).1, (cells3 Hk5.out).2.1, (cells3 Hk5.out).2.2, Box.cell Hx5.out⟩ (fun hHeld => ?_)
  have hdr : Below w5.heap.size w5 w5.drew := Below.drew (Below.refl _ _)
  have Hk5 := Lib.hid (blk_on Hk5.out hdr)
  have Hx5 := Lib.hid (blk_on Hx5.out hdr)
  have Ho5 := Lib.hid (Ho5.out.on hdr)
  have Hr5 := Lib.hid (Hr5.out.below hdr)
  have Hd5 := Lib.hid (Hd5.out.below hdr)
  have Hbw := Lib.hid (below_trans Hbw.out hdr)
  have Hs5 := Lib.hid (show z + 2 ≤ w5.drew.heap.size from Hs5.out)
  clear hdr
  obtain ⟨we, ewe⟩ : ∃ we, w5.drew = we := ⟨_, rfl⟩
  rw [ewe] at Hk5 Hx5 Ho5 Hr5 Hd5 Hbw Hs5 hHeld ⊢
  clear ewe
  refine wpAnyH_take (i := 0) (oi := { dst := some 33, op := Go.Op.move (Go.Operand.tmp 0), type := 24, pos := "udp.go:55", after := #[], guard := none }) (v := ?_) rfl (by kernel_rfl) (by kernel_rfl) (by kernel_rfl) (fun _ _ _ h => h) (Or.inl ⟨by rfl, ?_⟩) (by assumption) ?_
  rotate_left 1
  · intro w' hSw; (go_simp <;> (with_reducible rfl))
  (try simp only [Act.put, List.setIfInBounds_toArray, List.set_cons_zero, List.set_cons_succ])
  refine wpAnyH_take (i := 1) (oi := { dst := some 34, op := Go.Op.move (Go.Operand.tmp 1), type := 24, pos := "udp.go:55", after := #[], guard := none }) (v := ?_) rfl (by kernel_rfl) (by kernel_rfl) (by kernel_rfl) (fun _ _ _ h => h) (Or.inl ⟨by rfl, ?_⟩) (by assumption) ?_
  rotate_left 1
  · intro w' hSw; (go_simp <;> (with_reducible rfl))
  (try simp only [Act.put, List.setIfInBounds_toArray, List.set_cons_zero, List.set_cons_succ])
  refine wpAnyH_take (i := 2) (oi := { dst := some 35, op := Go.Op.move (Go.Operand.tmp 10), type := 3, pos := "udp.go:55", after := #[], guard := none }) (v := ?_) rfl (by kernel_rfl) (by kernel_rfl) (by kernel_rfl) (fun _ _ _ h => h) (Or.inl ⟨by rfl, ?_⟩) (by assumption) ?_
  rotate_left 1
  · intro w' hSw; (go_simp <;> (with_reducible rfl))
  (try simp only [Act.put, List.setIfInBounds_toArray, List.set_cons_zero, List.set_cons_succ])
  refine wpAnyH_take (i := 4) (oi := { dst := some 37, op := Go.Op.load 22 (Go.Operand.tmp 8), type := 22, pos := "udp.go:55", after := #[], guard := none }) (v := ?_) rfl (by kernel_rfl) (by kernel_rfl) (by kernel_rfl) (fun _ _ _ h => h) (Or.inl ⟨by rfl, ?_⟩) (by assumption) ?_
  rotate_left 1
  · intro w' hSw; (go_simp <;> (with_reducible rfl))
  (try simp only [Act.put, List.setIfInBounds_toArray, List.set_cons_zero, List.set_cons_succ])
  refine wpAnyH_take (i := 5) (oi := { dst := some 38, op := Go.Op.fieldAddr 31 (Go.Operand.tmp 5) 2, type := 0, pos := "udp.go:55", after := #[], guard := none }) (v := ?_) rfl (by kernel_rfl) (by kernel_rfl) (by kernel_rfl) (fun _ _ _ h => h) (Or.inl ⟨by rfl, ?_⟩) (by assumption) ?_
  rotate_left 1
  · intro w' hSw; (go_simp <;> (with_reducible rfl))
  (try simp only [Act.put, List.setIfInBounds_toArray, List.set_cons_zero, List.set_cons_succ])
  refine wpAnyH_take (i := 6) (oi := { dst := some 39, op := Go.Op.load 22 (Go.Operand.tmp 38), type := 22, pos := "udp.go:55", after := #[{ on := 5, ground := Go.Ground.data }], guard := none }) (v := ?_) rfl (by kernel_rfl) (by kernel_rfl) (by kernel_rfl) (fun _ _ _ h => h) (Or.inl ⟨by rfl, ?_⟩) (by assumption) ?_
  rotate_left 1
  · intro w' hSw; (go_simp <;> (with_reducible rfl))
  (try simp only [Act.put, List.setIfInBounds_toArray, List.set_cons_zero, List.set_cons_succ])
  refine wpAnyH_ready (rs := [3]) (by kernel_rfl) (by simp) ?_
  refine AllReadyH.cons (o := { dst := some 36, op := Go.Op.call { callee := Go.Callee.value (Go.Operand.func 79), args := #[Go.Operand.tmp 33, Go.Operand.tmp 34, Go.Operand.const (Go.Value.int Go.IntKind.u8 17), Go.Operand.tmp 35], argTypes := #[24, 24, 5, 3] }, type := 22, pos := "udp.go:55", after := #[{ on := 0, ground := Go.Ground.data }, { on := 1, ground := Go.Ground.data }, { on := 2, ground := Go.Ground.data }], guard := none }) rfl (fun K hK => ?_) AllReadyH.nil
  go_simp
  (go_at_call 79; refine (pseudo_any src dst 17 (8 + (n : Int)) _ (by omega)).mono ?_; rintro e w6 ⟨A6, c6, rfl, k6, m6, ho6, hb6⟩; have Hr6 := Lib.hid (ho6.rd (pseudo_byte _ _ _ _ (by omega))); have Hk6 := Lib.hid (blk_on Hk5.out hb6); have Hx6 := Lib.hid (blk_on Hx5.out hb6); have Hb6 := Lib.hid hb6; clear ho6 hb6)
  refine hK.out _ _ ?_ (fun hHeld => ?_)
  · exact ⟨(cells3 Hk6.out).1, (cells3 Hk6.out).2.1, (cells3 Hk6.out).2.2, Box.cell Hx6.out⟩
  clear hK K
  (try simp only [Act.put, List.setIfInBounds_toArray, List.set_cons_zero, List.set_cons_succ])
  refine wpAnyH_ready (rs := [7]) (by kernel_rfl) (by simp) ?_
  refine AllReadyH.cons (o := { dst := some 40, op := Go.Op.buildSlice 132 3 #[(0, Go.Operand.tmp 36), (1, Go.Operand.tmp 37), (2, Go.Operand.tmp 39)], type := 132, pos := "udp.go:55", after := #[{ on := 3, ground := Go.Ground.data }, { on := 4, ground := Go.Ground.data }, { on := 6, ground := Go.Ground.data }], guard := none }) rfl (fun K hK => ?_) AllReadyH.nil
  go_simp
  skip
  refine hK.out _ _ ?_ (fun hHeld => ?_)
  · exact ⟨(cells3 (blk_on Hk6.out ((Below.refl _ _).alloc (Nat.le_refl _) _))).1, (cells3 (blk_on Hk6.out ((Below.refl _ _).alloc (Nat.le_refl _) _))).2.1, (cells3 (blk_on Hk6.out ((Below.refl _ _).alloc (Nat.le_refl _) _))).2.2, Box.cell (Box.alloc Hx6.out _)⟩
  clear hK K
  (try simp only [Act.put, List.setIfInBounds_toArray, List.set_cons_zero, List.set_cons_succ])
  refine wpAnyH_ready (rs := [8]) (by kernel_rfl) (by simp) ?_
  refine AllReadyH.cons (o := { dst := some 41, op := Go.Op.call { callee := Go.Callee.value (Go.Operand.func 99), args := #[Go.Operand.tmp 40], argTypes := #[132] }, type := 23, pos := "udp.go:55", after := #[{ on := 7, ground := Go.Ground.data }, { on := 3, ground := Go.Ground.chain }], guard := none }) rfl (fun K hK => ?_) AllReadyH.nil
  go_simp
  (go_at_call 99; refine (fieldof_any _ 3 3 [pseudoL src dst 17 (8 + (n : Int)), hdU ⟨sp, dp, d⟩, d] _ fd (by omega) (RdL.threeU w6 _ rfl 22 A6 A5 A 12 c6 6 c5 n c _ _ _ ⟨k6, m6⟩ Hc5.out Hc.out Hr6.out (Hr5.out.below Hb6.out) (Hd5.out.below Hb6.out)) Hfd.out).mono ?_; rintro e w7 ⟨rfl, hb7⟩; have Hbb7 := Lib.hid (on_alloc hb7); have Hk7 := Lib.hid (blk_on Hk6.out Hbb7.out); have Hx7 := Lib.hid (blk_on Hx6.out Hbb7.out); clear hb7)
  refine hK.out _ _ ?_ (fun hHeld => ?_)
  · exact ⟨(cells3 Hk7.out).1, (cells3 Hk7.out).2.1, (cells3 Hk7.out).2.2, Box.cell Hx7.out⟩
  clear hK K
  (try simp only [Act.put, List.setIfInBounds_toArray, List.set_cons_zero, List.set_cons_succ])
  refine wpAnyH_take (i := 9) (oi := { dst := some 11, op := Go.Op.assign (Go.Operand.tmp 41), type := 23, pos := "udp.go:55", after := #[{ on := 8, ground := Go.Ground.data }, { on := 8, ground := Go.Ground.chain }, { on := 0, ground := Go.Ground.phase }, { on := 1, ground := Go.Ground.phase }, { on := 2, ground := Go.Ground.phase }, { on := 3, ground := Go.Ground.phase }, { on := 4, ground := Go.Ground.phase }, { on := 5, ground := Go.Ground.phase }, { on := 6, ground := Go.Ground.phase }, { on := 7, ground := Go.Ground.phase }, { on := 8, ground := Go.Ground.phase }], guard := none }) (v := ?_) rfl (by kernel_rfl) (by kernel_rfl) (by kernel_rfl) (fun _ _ _ h => h) (Or.inl ⟨by rfl, ?_⟩) (by assumption) ?_
  rotate_left 1
  · intro w' hSw; (go_simp <;> (with_reducible rfl))
  (try simp only [Act.put, List.setIfInBounds_toArray, List.set_cons_zero, List.set_cons_succ])
  refine wpAnyH_done (by kernel_rfl) ?_ _
  have Hs7 := Lib.hid (show z + 2 ≤ w7.heap.size by have := Hs5.out; have := Hb6.out.size; have := Hbb7.out.size; omega)
  have Hd7 := Lib.hid ((Hd5.out.below Hb6.out).below Hbb7.out)
  have Ho7 := Lib.hid ((Ho5.out.on Hb6.out).on Hbb7.out)
  have Hb7 := Lib.hid (below_trans Hbw.out (below_trans Hb6.out Hbb7.out))
  clear Hk5 Hx5 Hd5 Hs5 Ho5 Hbw Hk6 Hx6 Hb6 Hbb7 Hr5 Hr6 hHeld k6 m6
  go_wp2_with fail
  refine wp_region_held_drew (S := fun w' => w'.cell? ⟨z, 0, none⟩ = some (.int .u16 sp) ∧ w'.cell? ⟨z, 1, none⟩ = some (.int .u16 dp) ∧ w'.cell? ⟨z, 2, none⟩ = some (.slice A n c)) (by kernel_rfl) (cells3 Hk7.out) (fun hHeld => ?_)
  have hdr : Below w7.heap.size w7 w7.drew := Below.drew (Below.refl _ _)
  have Hk7 := Lib.hid (blk_on Hk7.out hdr)
  have Hx7 := Lib.hid (blk_on Hx7.out hdr)
  have Ho7 := Lib.hid (Ho7.out.on hdr)
  have Hd7 := Lib.hid (Hd7.out.below hdr)
  have Hb7 := Lib.hid (below_trans Hb7.out hdr)
  have Hs7 := Lib.hid (show z + 2 ≤ w7.drew.heap.size from Hs7.out)
  clear hdr
  obtain ⟨wf, ewf⟩ : ∃ wf, w7.drew = wf := ⟨_, rfl⟩
  rw [ewf] at Hk7 Hx7 Ho7 Hd7 Hb7 Hs7 hHeld ⊢
  clear ewf
  have Ha7 := Lib.hid (Ho7.out.addr (by omega))
  have Hg8 := Lib.hid (show ∀ k, wf.heap.size ≤ k → ¬ (k = z + 1 ∨ A5 = some ⟨k, 0, none⟩) from fun k hk hh => by
    have := Hs7.out
    rcases hh with hh | hh
    · omega
    · obtain ⟨g, e, _, _⟩ := Ha7.out; rw [e] at hh; injection hh with hh; injection hh with hh; omega)
  have Hg9 := Lib.hid (show ∀ k, k ≤ z → ¬ (k = z + 1 ∨ A5 = some ⟨k, 0, none⟩) from fun k hk hh => by
    rcases hh with hh | hh
    · omega
    · obtain ⟨g, e, _, _⟩ := Ha7.out; rw [e] at hh; injection hh with hh; injection hh with hh; omega)
  refine wpAnyH_take (i := 0) (oi := { dst := some 42, op := Go.Op.move (Go.Operand.tmp 9), type := 156, pos := "udp.go:56", after := #[], guard := none }) (v := ?_) rfl (by kernel_rfl) (by kernel_rfl) (by kernel_rfl) (fun _ _ _ h => h) (Or.inl ⟨by rfl, ?_⟩) (by assumption) ?_
  rotate_left 1
  · intro w' hSw; (go_simp <;> (with_reducible rfl))
  (try simp only [Act.put, List.setIfInBounds_toArray, List.set_cons_zero, List.set_cons_succ])
  refine wpAnyH_take (i := 1) (oi := { dst := some 43, op := Go.Op.move (Go.Operand.tmp 11), type := 23, pos := "udp.go:56", after := #[], guard := none }) (v := ?_) rfl (by kernel_rfl) (by kernel_rfl) (by kernel_rfl) (fun _ _ _ h => h) (Or.inl ⟨by rfl, ?_⟩) (by assumption) ?_
  rotate_left 1
  · intro w' hSw; (go_simp <;> (with_reducible rfl))
  (try simp only [Act.put, List.setIfInBounds_toArray, List.set_cons_zero, List.set_cons_succ])
  refine wpAnyH_take (i := 3) (oi := { dst := some 45, op := Go.Op.fieldAddr 31 (Go.Operand.tmp 5) 2, type := 0, pos := "udp.go:56", after := #[], guard := none }) (v := ?_) rfl (by kernel_rfl) (by kernel_rfl) (by kernel_rfl) (fun _ _ _ h => h) (Or.inl ⟨by rfl, ?_⟩) (by assumption) ?_
  rotate_left 1
  · intro w' hSw; (go_simp <;> (with_reducible rfl))
  (try simp only [Act.put, List.setIfInBounds_toArray, List.set_cons_zero, List.set_cons_succ])
  refine wpAnyH_take (i := 4) (oi := { dst := some 46, op := Go.Op.load 22 (Go.Operand.tmp 45), type := 22, pos := "udp.go:56", after := #[{ on := 3, ground := Go.Ground.data }], guard := none }) (v := ?_) rfl (by kernel_rfl) (by kernel_rfl) (by kernel_rfl) (fun _ _ _ h => h) (Or.inl ⟨by rfl, ?_⟩) (by assumption) ?_
  rotate_left 1
  · intro w' hSw; (go_simp <;> (with_reducible rfl))
  (try simp only [Act.put, List.setIfInBounds_toArray, List.set_cons_zero, List.set_cons_succ])
  refine wpAnyH_ready (rs := [2]) (by kernel_rfl) (by simp) ?_
  refine AllReadyH.cons (o := { dst := some 44, op := Go.Op.call { callee := Go.Callee.value (Go.Operand.func 98), args := #[Go.Operand.tmp 43], argTypes := #[23] }, type := 22, pos := "udp.go:56", after := #[{ on := 1, ground := Go.Ground.data }], guard := none }) rfl (fun K hK => ?_) AllReadyH.nil
  go_simp
  (go_at_call 98; refine (word_row fd _ Hfdb.out).mono ?_; rintro e w8 ⟨A8, c8, rfl, k8, m8, ho8, hb8⟩; have Hr8 := Lib.hid (ho8.rd (be16_bytes Hfdb.out)); have Hs8 := Lib.hid (ho8.addr (by omega)); have Hk8 := Lib.hid (blk_on Hk7.out hb8); have Hx8 := Lib.hid (blk_on Hx7.out hb8); have Hb8 := Lib.hid hb8; clear ho8 hb8)
  refine hK.out _ _ ?_ (fun hHeld => ?_)
  · exact cells3 Hk8.out
  clear hK K
  (try simp only [Act.put, List.setIfInBounds_toArray, List.set_cons_zero, List.set_cons_succ])
  refine wpAnyH_ready (rs := [5]) (by kernel_rfl) (by simp) ?_
  refine AllReadyH.cons (o := { dst := some 47, op := Go.Op.buildSlice 132 2 #[(0, Go.Operand.tmp 44), (1, Go.Operand.tmp 46)], type := 132, pos := "udp.go:56", after := #[{ on := 2, ground := Go.Ground.data }, { on := 4, ground := Go.Ground.data }], guard := none }) rfl (fun K hK => ?_) AllReadyH.nil
  go_simp
  skip
  refine hK.out _ _ ?_ (fun hHeld => ?_)
  · exact cells3 (blk_on Hk8.out ((Below.refl _ _).alloc (Nat.le_refl _) _))
  clear hK K
  (try simp only [Act.put, List.setIfInBounds_toArray, List.set_cons_zero, List.set_cons_succ])
  refine wpAnyH_ready (rs := [6]) (by kernel_rfl) (by simp) ?_
  refine AllReadyH.cons (o := { dst := some 48, op := Go.Op.call { callee := Go.Callee.value (Go.Operand.tmp 42), args := #[Go.Operand.tmp 47], argTypes := #[132] }, type := 0, pos := "udp.go:56", after := #[{ on := 0, ground := Go.Ground.data }, { on := 5, ground := Go.Ground.data }, { on := 2, ground := Go.Ground.chain }], guard := none }) rfl (fun K hK => ?_) AllReadyH.nil
  go_simp
  (go_at_call 97; refine (ulay_any (z + 2) (z + 1) _ 2 2 [be16 fd, d] A5 6 c5 (hdU ⟨sp, dp, d⟩) (2 + n) _ (by omega) (by omega) (by have := Hs7.out; have := Hb8.out.size; simp; omega) (Box.alloc Hx8.out _) ((Ho7.out.on Hb8.out).alloc _) (fun w' hb => RdL.twoBut w8 w' _ rfl 22 A8 A 2 c8 n c _ _ hb (Hg8.out _ (by have := Hb8.out.size; omega)) ⟨k8, m8⟩ Hc.out Hr8.out (Hd7.out.below Hb8.out) (fun k o e => Hg8.out k (by obtain ⟨g8, e8, h8, _⟩ := Hs8.out; rw [e8] at e; injection e with e; injection e with e; omega)) (fun k o e h0 => Hg9.out k (Nat.le_of_lt (Hdz.out k o e h0)))) (by have := Hlen.out; simp [be16]; omega) (by omega)).mono ?_; rintro e w9 ⟨rfl, ⟨A9, c9, hx9, ho9⟩, hb9⟩; have Hk9 := Lib.hid (hb9.blk (blk_on Hk8.out ((Below.refl _ _).alloc (Nat.le_refl _) _)) (Hg9.out z (by omega))); have Hx9 := Lib.hid hx9; have Ho9 := Lib.hid ho9; have Hb9 := Lib.hid hb9; clear hx9 ho9 hb9)
  refine hK.out _ _ ?_ (fun hHeld => ?_)
  · exact cells3 Hk9.out
  clear hK K
  (try simp only [Act.put, List.setIfInBounds_toArray, List.set_cons_zero, List.set_cons_succ])
  refine wpAnyH_done (by kernel_rfl) ?_ _
  have hx9 := Box.cell Hx9.out
  have hl9 : (hdU ⟨sp, dp, d⟩ ++ [be16 fd, d].flatten : List Int) = dgB src dst ⟨sp, dp, d⟩ := by unfold dgB; rw [Efd.out]; simp
  rw [hl9, show 6 + (2 + n) = 8 + n by omega] at Ho9
  rw [show 6 + (2 + n) = 8 + n by omega] at Hx9
  rw [show 6 + (2 + n) = 8 + n by omega] at hx9
  have Hbz := Lib.hid ((below_trans Hb7.out (below_trans Hb8.out ((Below.refl _ _).alloc (Nat.le_refl _) (.cells #[.slice A8 2 c8, .slice A n c] 22)))).trans (Hb9.out.below (B := w.heap.size) (fun k hk => by
    have := Hz.out
    rcases hk with hk | hk
    · omega
    · obtain ⟨g, e, _, _⟩ := Ha7.out; rw [e] at hk; injection hk with hk; injection hk with hk; omega) (by have := Hs7.out; have := Hb8.out.size; have := Hz.out; simp; omega)))
  clear Hk7 Hx7 Ho7 Hd7 Hb7 Hs7 Ha7 Hg8 Hg9 Hk8 Hx8 Hb8 Hs8 Hr8 k8 m8 Hb9 Hk9 Hx9 hHeld hl9
  go_wp2_with fail
  go_ret2
  exact ⟨A9, c9, rfl, Ho9.out.cap, Ho9.out.capMax, Ho9.out.mono (by have := Hz.out; omega), Hbz.out⟩
end Go.Proofs.YtheknmihnkennaaGreat

/-
  The document's own numbers in bytes (culvertref03): Own, Lay, and a reader's take and Num, of two bytes that are there.
-/
namespace Go.Proofs.YtheknmihnkennaaGreat
set_option maxRecDepth 10000
open Go.RowKit
set_option linter.unusedSimpArgs false

end Go.Proofs.YtheknmihnkennaaGreat

/-
  The document's own answers for datagrams (culvertref07): laid, Pseudo, Put.
-/
namespace Go.Proofs.YtheknmihnkennaaGreat
set_option maxRecDepth 10000
open Go.RowKit

/-- A row that the call has made so far. -/
structure RowSo (w wr : World) (A : Option Addr) (m c : Nat) (l : List Int) : Prop where
  own : OwnB wr w.heap.size A m c l
  byte : ∀ x ∈ l, 0 ≤ x ∧ x < 256
  old : Below w.heap.size w wr
theorem RowSo.next {w wr w' : World} {A A' : Option Addr} {m c m' c' : Nat} {l l' : List Int} (h : RowSo w wr A m c l) (ho : OwnB w' wr.heap.size A' m' c' l') (hl : ∀ x ∈ l', 0 ≤ x ∧ x < 256) (hb : Below wr.heap.size wr w') : RowSo w w' A' m' c' l' :=
  ⟨ho.mono h.old.size, hl, below_trans h.old hb⟩
end Go.Proofs.YtheknmihnkennaaGreat

/-
  The document's own answers for messages (culvertref08): Put, Exceeded.
-/
namespace Go.Proofs.YtheknmihnkennaaGreat
set_option maxRecDepth 10000
open Go.RowKit

/-- Put tells the row L and x. -/
def PutM (L : List Int) (m : Nat) (x : Int) (w : World) (e : Ending) (w' : World) : Prop := ∃ A c, e = .returned (.tuple #[.slice A m c, .int .i64 x]) ∧ m ≤ c ∧ c ≤ maxLen ∧ OwnB w' w.heap.size A m c L ∧ Below w.heap.size w w'
def errP (s : Msg) : Int := if 1472 < s.d.length then 3 else 0
def toldM (s : Msg) : List Int := if 1472 < s.d.length then [] else msgB s
end Go.Proofs.YtheknmihnkennaaGreat
