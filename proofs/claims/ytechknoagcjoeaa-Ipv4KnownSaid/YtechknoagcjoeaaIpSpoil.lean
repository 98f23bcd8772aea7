/-
  Ipv4Known's 'spoilt': a packet with one word of its header changed, and the field with it: what Parse tells.
-/
import Derived.Test.YtechknoagcjoeaaIpWakes
import Derived.Test.YtechknoagcjoeaaSumNum
import Derived.Deep.RegionHeld3
namespace Go.Proofs.Ytechknoagcjoeaa
open Go.RowKit

/-- What Parse tells, of what is wrong alone. -/
def ErrIs (x : Int) (w : World) (e : Ending) (w' : World) : Prop :=
  ∃ (a b : Int) (d : Bool) (f i j k : Int) (A : Option Addr) (n c : Nat) (A' : Option Addr) (n' c' : Nat), e = .returned (.tuple #[.agg #[.int .u8 a, .int .u16 b, .bool d, .int .u8 f, .int .u8 i, .int .u32 j, .int .u32 k, .slice A n c], .slice A' n' c', .int .i64 x]) ∧ Below w.heap.size w w'
theorem parse_err (A : Option Addr) (n c : Nat) (b : List Int) (x : Int) (w : World) (hc : n ≤ c ∧ c ≤ maxLen) (hn : n ≤ 140737488355328) (hA : Rd w A n b) (hx : errIp b = x) :
    Calls Try.prog 9 #[.slice A n c] w (ErrIs x w) := by
  by_cases h0 : x = 0
  · subst h0
    exact (parse_good A n c b w hc hn hA hx).mono fun e w' ⟨Ao, no, co, Ap, np, cp, he, _, _, hb⟩ => ⟨_, _, _, _, _, _, _, _, _, _, _, _, _, he, hb⟩
  · exact (parse_bad A n c b x w hc hn hA hx h0).mono fun e w' ⟨he, hb⟩ => ⟨_, _, _, _, _, _, _, _, _, _, _, _, _, he, hb⟩

/-- A packet of its own, and what becomes of it. -/
def ownL : List Int := [69, 0, 0, 22, 0, 0, 0, 0, 9, 6, 177, 227, 0, 0, 0, 0, 0, 0, 0, 0, 1, 2]
theorem ownL_is : packetL 0 0 false 9 6 0 0 [] [1, 2] = ownL := by decide +kernel
def spoilL (a : Nat) (was is_ : Int) : List Int := (((ownL.set a (is_ / 256)).set (a + 1) (is_ % 256)).set 10 (wordF 45539 was is_ / 256)).set 11 (wordF 45539 was is_ % 256)
def IntIs (x : Int) (w : World) (e : Ending) (w' : World) : Prop := e = .returned (.int .i64 x) ∧ Below w.heap.size w w'

theorem bytes_set {l : List Int} (h : Bytes l) (k : Nat) {x : Int} (hx : 0 ≤ x ∧ x < 256) : Bytes (l.set k x) := fun y hy => by
  rcases List.mem_or_eq_of_mem_set hy with h' | h'
  · exact h y h'
  · rw [h']; exact hx

set_option maxHeartbeats 2000000 in
theorem spoil_told (a : Nat) (was is_ x : Int) (w : World) (ha : a < 9) (hw : U16 was) (hi : U16 is_) (hx : errIp (spoilL a was is_) = x) :
    Calls Try.prog 10 #[.int .i64 (a : Int), .int .u16 was, .int .u16 is_] w (IntIs x w) := by
  have hi1 : 0 ≤ is_ / 256 ∧ is_ / 256 < 256 := by unfold U16 at hi; omega
  have hi2 : 0 ≤ is_ % 256 ∧ is_ % 256 < 256 := by omega
  have n1 := wordF_bd 45539 was is_ (by unfold U16; omega) hw hi
  have hn1 : 0 ≤ wordF 45539 was is_ / 256 ∧ wordF 45539 was is_ / 256 < 256 := by unfold U16 at n1; omega
  have hn2 : 0 ≤ wordF 45539 was is_ % 256 ∧ wordF 45539 was is_ % 256 < 256 := by omega
  have ha9 : a + 1 ≤ 9 := by omega
  have Hx := Lib.hid hx
  clear hx
  have hb0 := (Below.refl w.heap.size w).alloc (Nat.le_refl _) (.cells #[.int .u8 1, .int .u8 2] 5)
  have hrd := Rd.const_ w w.heap.size rfl [1, 2] 5 (0, 0) (by decide)
  have Hrd := Lib.hid hrd
  have Hb0 := Lib.hid hb0
  clear hb0 hrd
  obtain ⟨nn, en⟩ : ∃ nn, wordF 45539 was is_ = nn := ⟨_, rfl⟩
  have En := Lib.hid en
  unfold U16 at n1
  rw [en] at n1 hn1 hn2
  obtain ⟨n10, n11⟩ := n1
  obtain ⟨i0, i1⟩ := id hi
  clear en
  go_enter Try.func10, Try.ntmps10
  go_wp2_with fail
  refine (put_ok 0 0 9 6 0 0 false none _ 0 0 2 2 [] [1, 2] _ (by omega) (by omega) (by omega) (by omega) (by omega) (by omega) (by decide) (by omega) ⟨by omega, by simp [maxLen]⟩ ⟨by omega, by simp [maxLen]⟩ (by omega) (Rd.nil _ _) Hrd.out).mono ?_
  rw [ownL_is]
  rintro e w1 ⟨A1, c, rfl, hc, hcm, hown, hb⟩
  obtain ⟨g, rfl, hgB, hgl⟩ := hown.addr (by omega)
  have hgw : w.heap.size ≤ g := by simp at hgB; omega
  have HB := Lib.hid (below_trans Hb0.out hb)
  have HO := Lib.hid (hown.mono (B' := w.heap.size) (by simp))
  clear hown hb hgB
  have f0 : ∀ j, w1.frozen? ⟨g, j, none⟩ = false := fun j => World.ownsRow.frozenAt HO.out j
  have ca := HO.out.cell a (by omega)
  have cb := HO.out.cell (a + 1) (by omega)
  have c10 := HO.out.cell 10 (by omega)
  have c11 := HO.out.cell 11 (by omega)
  rw [show ownL.getD 10 0 = 177 from rfl] at c10
  rw [show ownL.getD 11 0 = 227 from rfl] at c11
  obtain ⟨va, eva⟩ : ∃ va, ownL.getD a 0 = va := ⟨_, rfl⟩
  obtain ⟨vb, evb⟩ : ∃ vb, ownL.getD (a + 1) 0 = vb := ⟨_, rfl⟩
  rw [eva] at ca
  rw [evb] at cb
  clear eva evb
  have j0 : (0 : Int) ≤ (a : Int) := by omega
  have j1 : (a : Int) < 22 := by omega
  have j2 : (a : Int) + 1 < 22 := by omega
  have j3 : ¬ a = 10 := by omega
  have j4 : ¬ a = 11 := by omega
  have j5 : ¬ a + 1 = 10 := by omega
  have j6 : ¬ a + 1 = 11 := by omega
  have hwu := wraps_u8 (is_ / 256) hi1.1 (by omega)
  have hwv : IntKind.u8.wrap is_ = is_ % 256 := by simp [IntKind.wrap, IntKind.bits, IntKind.signed]
  go_wp2_with fail
  have HO := Lib.hid ((HO.out.set_ a (is_ / 256)).set_ (a + 1) (is_ % 256))
  have HB := Lib.hid ((HB.out.setCell (p := ⟨g, a, none⟩) hgw (.int .u8 (is_ / 256))).setCell (p := ⟨g, a + 1, none⟩) hgw (.int .u8 (is_ % 256)))
  clear ca cb c10 c11 f0 hwu hwv j0 j1 j2 j3 j4 j5 j6
  generalize (w1.setCell ⟨g, a, none⟩ (.int .u8 (is_ / 256))).setCell ⟨g, a + 1, none⟩ (.int .u8 (is_ % 256)) = w2 at HO HB ⊢
  have c10 := HO.out.cell 10 (by omega)
  have c11 := HO.out.cell 11 (by omega)
  have g10 : ((ownL.set a (is_ / 256)).set (a + 1) (is_ % 256)).getD 10 0 = 177 := by
    simp only [List.getD, List.getElem?_set]
    rw [if_neg (by omega), if_neg (by omega)]; rfl
  have g11 : ((ownL.set a (is_ / 256)).set (a + 1) (is_ % 256)).getD 11 0 = 227 := by
    simp only [List.getD, List.getElem?_set]
    rw [if_neg (by omega), if_neg (by omega)]; rfl
  rw [g10] at c10
  rw [g11] at c11
  clear g10 g11
  have hor := or16 177 227 (by omega) (by omega)
  simp at hor
  refine wp_region_held_drew (S := fun w' => w'.cell? ⟨g, 10, none⟩ = some (.int .u8 177) ∧ w'.cell? ⟨g, 11, none⟩ = some (.int .u8 227)) (by kernel_rfl) ⟨c10, c11⟩ (fun hHeld => ?_)
  refine wpAnyH_take (i := 0) (oi := { dst := some 34, op := Go.Op.move (Go.Operand.tmp 7), type := 24, pos := "outright.go:88", after := #[], guard := none }) (v := ?_) rfl (by kernel_rfl) (by kernel_rfl) (by kernel_rfl) (fun _ _ _ h => h) (Or.inl ⟨by rfl, ?_⟩) (by assumption) ?_
  rotate_left 1
  · intro w' hSw; (go_simp <;> (with_reducible rfl))
  (try simp only [Act.put, List.setIfInBounds_toArray, List.set_cons_zero, List.set_cons_succ])
  refine wpAnyH_take (i := 1) (oi := { dst := some 35, op := Go.Op.indexAddr 24 (Go.Operand.tmp 34) (Go.Operand.const (Go.Value.int Go.IntKind.i64 10)), type := 0, pos := "outright.go:88", after := #[{ on := 0, ground := Go.Ground.data }], guard := none }) (v := ?_) rfl (by kernel_rfl) (by kernel_rfl) (by kernel_rfl) (fun _ _ _ h => h) (Or.inl ⟨by rfl, ?_⟩) (by assumption) ?_
  rotate_left 1
  · intro w' hSw; (go_simp <;> (with_reducible rfl))
  (try simp only [Act.put, List.setIfInBounds_toArray, List.set_cons_zero, List.set_cons_succ])
  refine wpAnyH_take (i := 2) (oi := { dst := some 36, op := Go.Op.load 5 (Go.Operand.tmp 35), type := 5, pos := "outright.go:88", after := #[{ on := 1, ground := Go.Ground.data }], guard := none }) (v := ?_) rfl (by kernel_rfl) (by kernel_rfl) (by kernel_rfl) (fun _ _ _ h => h) (Or.inl ⟨by rfl, ?_⟩) (by assumption) ?_
  rotate_left 1
  · intro w' hSw; (go_simp <;> (with_reducible rfl))
  (try simp only [Act.put, List.setIfInBounds_toArray, List.set_cons_zero, List.set_cons_succ])
  refine wpAnyH_take (i := 3) (oi := { dst := some 37, op := Go.Op.convert 5 22 (Go.Operand.tmp 36), type := 22, pos := "outright.go:88", after := #[{ on := 2, ground := Go.Ground.data }], guard := none }) (v := ?_) rfl (by kernel_rfl) (by kernel_rfl) (by kernel_rfl) (fun _ _ _ h => h) (Or.inl ⟨by rfl, ?_⟩) (by assumption) ?_
  rotate_left 1
  · intro w' hSw; (go_simp <;> (with_reducible rfl))
  (try simp only [Act.put, List.setIfInBounds_toArray, List.set_cons_zero, List.set_cons_succ])
  refine wpAnyH_take (i := 4) (oi := { dst := some 38, op := Go.Op.binOp Go.BinOp.shl 22 (Go.Operand.tmp 37) (Go.Operand.const (Go.Value.int Go.IntKind.u64 8)) 36, type := 22, pos := "outright.go:88", after := #[{ on := 3, ground := Go.Ground.data }], guard := none }) (v := ?_) rfl (by kernel_rfl) (by kernel_rfl) (by kernel_rfl) (fun _ _ _ h => h) (Or.inl ⟨by rfl, ?_⟩) (by assumption) ?_
  rotate_left 1
  · intro w' hSw; (go_simp <;> (with_reducible rfl))
  (try simp only [Act.put, List.setIfInBounds_toArray, List.set_cons_zero, List.set_cons_succ])
  refine wpAnyH_take (i := 5) (oi := { dst := some 39, op := Go.Op.move (Go.Operand.tmp 7), type := 24, pos := "outright.go:88", after := #[], guard := none }) (v := ?_) rfl (by kernel_rfl) (by kernel_rfl) (by kernel_rfl) (fun _ _ _ h => h) (Or.inl ⟨by rfl, ?_⟩) (by assumption) ?_
  rotate_left 1
  · intro w' hSw; (go_simp <;> (with_reducible rfl))
  (try simp only [Act.put, List.setIfInBounds_toArray, List.set_cons_zero, List.set_cons_succ])
  refine wpAnyH_take (i := 6) (oi := { dst := some 40, op := Go.Op.indexAddr 24 (Go.Operand.tmp 39) (Go.Operand.const (Go.Value.int Go.IntKind.i64 11)), type := 0, pos := "outright.go:88", after := #[{ on := 5, ground := Go.Ground.data }], guard := none }) (v := ?_) rfl (by kernel_rfl) (by kernel_rfl) (by kernel_rfl) (fun _ _ _ h => h) (Or.inl ⟨by rfl, ?_⟩) (by assumption) ?_
  rotate_left 1
  · intro w' hSw; (go_simp <;> (with_reducible rfl))
  (try simp only [Act.put, List.setIfInBounds_toArray, List.set_cons_zero, List.set_cons_succ])
  refine wpAnyH_take (i := 7) (oi := { dst := some 41, op := Go.Op.load 5 (Go.Operand.tmp 40), type := 5, pos := "outright.go:88", after := #[{ on := 6, ground := Go.Ground.data }], guard := none }) (v := ?_) rfl (by kernel_rfl) (by kernel_rfl) (by kernel_rfl) (fun _ _ _ h => h) (Or.inl ⟨by rfl, ?_⟩) (by assumption) ?_
  rotate_left 1
  · intro w' hSw; (go_simp <;> (with_reducible rfl))
  (try simp only [Act.put, List.setIfInBounds_toArray, List.set_cons_zero, List.set_cons_succ])
  refine wpAnyH_take (i := 8) (oi := { dst := some 42, op := Go.Op.convert 5 22 (Go.Operand.tmp 41), type := 22, pos := "outright.go:88", after := #[{ on := 7, ground := Go.Ground.data }], guard := none }) (v := ?_) rfl (by kernel_rfl) (by kernel_rfl) (by kernel_rfl) (fun _ _ _ h => h) (Or.inl ⟨by rfl, ?_⟩) (by assumption) ?_
  rotate_left 1
  · intro w' hSw; (go_simp <;> (with_reducible rfl))
  (try simp only [Act.put, List.setIfInBounds_toArray, List.set_cons_zero, List.set_cons_succ])
  refine wpAnyH_take (i := 9) (oi := { dst := some 43, op := Go.Op.binOp Go.BinOp.or 22 (Go.Operand.tmp 38) (Go.Operand.tmp 42) 22, type := 22, pos := "outright.go:88", after := #[{ on := 4, ground := Go.Ground.data }, { on := 8, ground := Go.Ground.data }], guard := none }) (v := ?_) rfl (by kernel_rfl) (by kernel_rfl) (by kernel_rfl) (fun _ _ _ h => h) (Or.inl ⟨by rfl, ?_⟩) (by assumption) ?_
  rotate_left 1
  · intro w' hSw; (go_simp <;> (with_reducible rfl))
  (try simp only [Act.put, List.setIfInBounds_toArray, List.set_cons_zero, List.set_cons_succ])
  refine wpAnyH_take (i := 10) (oi := { dst := some 44, op := Go.Op.move (Go.Operand.tmp 1), type := 22, pos := "outright.go:88", after := #[], guard := none }) (v := ?_) rfl (by kernel_rfl) (by kernel_rfl) (by kernel_rfl) (fun _ _ _ h => h) (Or.inl ⟨by rfl, ?_⟩) (by assumption) ?_
  rotate_left 1
  · intro w' hSw; (go_simp <;> (with_reducible rfl))
  (try simp only [Act.put, List.setIfInBounds_toArray, List.set_cons_zero, List.set_cons_succ])
  refine wpAnyH_take (i := 11) (oi := { dst := some 45, op := Go.Op.move (Go.Operand.tmp 2), type := 22, pos := "outright.go:88", after := #[], guard := none }) (v := ?_) rfl (by kernel_rfl) (by kernel_rfl) (by kernel_rfl) (fun _ _ _ h => h) (Or.inl ⟨by rfl, ?_⟩) (by assumption) ?_
  rotate_left 1
  · intro w' hSw; (go_simp <;> (with_reducible rfl))
  (try simp only [Act.put, List.setIfInBounds_toArray, List.set_cons_zero, List.set_cons_succ])
  refine wpAnyH_ready (rs := [12]) (by kernel_rfl) (by simp) ?_
  refine AllReadyH.cons (o := { dst := some 46, op := Go.Op.call { callee := Go.Callee.value (Go.Operand.func 11), args := #[Go.Operand.tmp 43, Go.Operand.tmp 44, Go.Operand.tmp 45], argTypes := #[22, 22, 22] }, type := 22, pos := "outright.go:88", after := #[{ on := 9, ground := Go.Ground.data }, { on := 10, ground := Go.Ground.data }, { on := 11, ground := Go.Ground.data }], guard := none }) rfl (fun K hK => ?_) AllReadyH.nil
  go_simp
  (go_at_call 11; refine (word_told 45539 was is_ nn _ (by unfold U16; omega) hw hi En.out).mono ?_; rintro e w9 ⟨rfl, rfl⟩)
  refine hK.out _ _ ?_ (fun hHeld => ?_)
  · exact (And.intro c10 c11)
  clear hK K
  (try simp only [Act.put, List.setIfInBounds_toArray, List.set_cons_zero, List.set_cons_succ])
  refine wpAnyH_take (i := 13) (oi := { dst := some 9, op := Go.Op.assign (Go.Operand.tmp 46), type := 22, pos := "outright.go:88", after := #[{ on := 12, ground := Go.Ground.data }, { on := 12, ground := Go.Ground.chain }, { on := 0, ground := Go.Ground.phase }, { on := 1, ground := Go.Ground.phase }, { on := 2, ground := Go.Ground.phase }, { on := 3, ground := Go.Ground.phase }, { on := 4, ground := Go.Ground.phase }, { on := 5, ground := Go.Ground.phase }, { on := 6, ground := Go.Ground.phase }, { on := 7, ground := Go.Ground.phase }, { on := 8, ground := Go.Ground.phase }, { on := 9, ground := Go.Ground.phase }, { on := 10, ground := Go.Ground.phase }, { on := 11, ground := Go.Ground.phase }, { on := 12, ground := Go.Ground.phase }], guard := none }) (v := ?_) rfl (by kernel_rfl) (by kernel_rfl) (by kernel_rfl) (fun _ _ _ h => h) (Or.inl ⟨by rfl, ?_⟩) (by assumption) ?_
  rotate_left 1
  · intro w' hSw; (go_simp <;> (with_reducible rfl))
  (try simp only [Act.put, List.setIfInBounds_toArray, List.set_cons_zero, List.set_cons_succ])
  have f10 : w2.frozen? ⟨g, 10, none⟩ = false := World.ownsRow.frozenAt HO.out 10
  have f11 : w2.frozen? ⟨g, 11, none⟩ = false := World.ownsRow.frozenAt HO.out 11
  have hwu := wraps_u8 (nn / 256) hn1.1 (by omega)
  have hwv : IntKind.u8.wrap nn = nn % 256 := by simp [IntKind.wrap, IntKind.bits, IntKind.signed]
  refine wpAnyH_done (by kernel_rfl) ?_ _
  go_wp2_with fail
  have HO := Lib.hid (OwnB.drew ((HO.out.set_ 10 (nn / 256)).set_ 11 (nn % 256)))
  have HB := Lib.hid (Below.drew ((HB.out.setCell (p := ⟨g, 10, none⟩) hgw (.int .u8 (nn / 256))).setCell (p := ⟨g, 11, none⟩) hgw (.int .u8 (nn % 256))))
  have hlist : spoilL a was is_ = ((((ownL.set a (is_ / 256)).set (a + 1) (is_ % 256)).set 10 (nn / 256)).set 11 (nn % 256)) := by unfold spoilL; rw [En.out]
  have hbytes : Bytes ((((ownL.set a (is_ / 256)).set (a + 1) (is_ % 256)).set 10 (nn / 256)).set 11 (nn % 256)) :=
    bytes_set (bytes_set (bytes_set (bytes_set (by unfold Bytes ownL; decide) _ hi1) _ hi2) _ hn1) _ hn2
  have hr := HO.out.rdB hbytes
  rw [← hlist] at hr
  have Hr := Lib.hid hr
  clear hlist hbytes hr c10 c11 f10 f11 hwu hwv hor
  refine (parse_err _ 22 c _ x _ ⟨by omega, hcm⟩ (by omega) Hr.out Hx.out).mono ?_
  rintro e w5 ⟨_, _, _, _, _, _, _, _, _, _, _, _, _, rfl, hb⟩
  have HB := Lib.hid (below_trans HB.out hb)
  clear hb
  go_wp2_with fail
  go_ret
  exact ⟨rfl, HB.out.alloc HB.out.size _⟩

end Go.Proofs.Ytechknoagcjoeaa
