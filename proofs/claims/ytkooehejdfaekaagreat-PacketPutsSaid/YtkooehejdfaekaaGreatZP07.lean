/-
  Texts laid together: OptPut, Seg, Made, OptPlain.
-/
import Derived.Test.YtkooehejdfaekaaGreatZP05
import Derived.Deep.RegionHeld3
import Derived.IntWalk
import Derived.Test.YtkooehejdfaekaaGreatZP06
import Derived.Lib.SmallJoins
import Derived.Test.YtkooehejdfaekaaGreatZP01

/-
  The contract of the document's own Put for options (culvertref05).
-/
namespace Go.Proofs.YtkooehejdfaekaaGreat
set_option maxRecDepth 10000
open Go.RowKit

def badB (l : Int × List Int) : Bool := decide (l.1 < 2) || decide (38 < l.2.length)
def bytesOne (l : Int × List Int) : List Int := [l.1, 2 + (l.2.length : Int)] ++ l.2
def bytesO (ls : List (Int × List Int)) : List Int := ls.flatMap bytesOne
def padTo4 (b : List Int) : List Int := b ++ List.replicate ((4 - b.length % 4) % 4) 0
/-- What Put tells of options. -/
def PutO (ls : List (Int × List Int)) (w : World) (e : Ending) (w' : World) : Prop :=
  if ls.any badB = true then e = .returned (.tuple #[.slice Option.none 0 0, .int .i64 1]) ∧ Below w.heap.size w w'
  else if 40 < (bytesO ls).length then e = .returned (.tuple #[.slice Option.none 0 0, .int .i64 3]) ∧ Below w.heap.size w w'
  else ∃ A c, e = .returned (.tuple #[.slice A (padTo4 (bytesO ls)).length c, .int .i64 0]) ∧ OwnB w' w.heap.size A (padTo4 (bytesO ls)).length c (padTo4 (bytesO ls)) ∧ Below w.heap.size w w'
theorem bytesO_snoc (ls : List (Int × List Int)) (l : Int × List Int) : bytesO (ls ++ [l]) = bytesO ls ++ bytesOne l := by simp [bytesO]
theorem any_take {ls : List (Int × List Int)} {j : Nat} (h : j < ls.length) (hb : badB (ls.getD j (0, [])) = true) : ls.any badB = true := by
  rw [List.any_eq_true]
  exact ⟨ls.getD j (0, []), by simp [List.getD, List.getElem?_eq_getElem h], hb⟩

theorem rput_any (A : Option Addr) (n c : Nat) (os : List OptV) (ls : List (Int × List Int)) (w : World) (hn : n ≤ 2000000) (hr : RdO w A n os) (hs : Reads w os ls) :
    Calls Tryz.prog 49 #[.slice A n c] w (PutO ls w) := by
  have Hlen := Lib.hid hr.len
  have Hl := Lib.hid (show ls.length = n by rw [← hs.len, hr.len])
  have Hr := Lib.hid hr
  have Hs := Lib.hid hs
  clear hr hs
  go_enter Tryz.func49, Tryz.ntmps49
  go_wp2_with fail
  go_loopg [4, 5] n (fun gk b i wr => ∃ (j m2 : Nat) (A2 : Option Addr) (c2 : Nat), Hid (gk + j = n) ∧ j ≤ n ∧ m2 ≤ 40 * j ∧ i = .int .i64 (j : Int) ∧ b = .slice A2 m2 c2 ∧ Hid (OwnB wr w.heap.size A2 m2 c2 (bytesO (ls.take j))) ∧ Hid ((ls.take j).any badB = false) ∧ Below w.heap.size w wr)
  case atStart => exact ⟨0, 0, Option.none, 0, rfl, Nat.zero_le _, Nat.le_refl _, rfl, rfl, Lib.hid (by simpa [bytesO] using OwnB.nil w w.heap.size), Lib.hid (by simp), Below.refl _ _⟩
  case round =>
    obtain ⟨j, m2, A2, c2, hgk, hj, hmj, rfl, rfl, hown, hok, hb⟩ := hrel
    by_cases hjn : j < n
    · obtain ⟨b1, p1, hrun1, hb1, hk0, hd0⟩ := Hr.out.index (c := c) hjn
      have o1 := Hs.out.get j (by rw [Hr.out.len]; exact hjn)
      have hsn := take_snoc_ ls j (0, []) (by rw [Hl.out]; exact hjn)
      obtain ⟨v1, ev1⟩ : ∃ v, os.getD j .none = v := ⟨_, rfl⟩
      obtain ⟨l1, el1⟩ : ∃ v, ls.getD j (0, []) = v := ⟨_, rfl⟩
      rw [ev1] at hk0 hd0 o1
      rw [el1] at o1 hsn
      obtain ⟨kd1, A1, n1, c1⟩ := v1
      obtain ⟨t1, d1⟩ := l1
      obtain ⟨rfl, hkb, hnc, hcm, r1⟩ := o1
      simp only at hk0 hd0 hkb hnc hcm
      have hsof : ∀ w', Below w.heap.size w w' → w'.cell? ⟨b1, p1, none⟩ = some (.int .u8 kd1) ∧ w'.cell? ⟨b1, p1 + 1, none⟩ = some (.slice A1 n1 c1) := fun w' h => ⟨(h.cell (p := ⟨b1, p1, none⟩) hb1).trans hk0, (h.cell (p := ⟨b1, p1 + 1, none⟩) hb1).trans hd0⟩
      have Sof := Lib.hid hsof
      obtain ⟨hk1, hd1⟩ := hsof wr hb
      clear hsof hk0 hd0
      have hd1len := r1.len
      simp only at r1 hd1len
      have El1 := Lib.hid el1
      have Hsn := Lib.hid hsn
      have Hd1 := Lib.hid hd1len
      have Hr1 := Lib.hid r1
      clear ev1 el1 hsn r1 hd1len
      by_cases hbad : badB (kd1, d1) = true
      · have Hany := Lib.hid (any_take (ls := ls) (j := j) (by rw [Hl.out]; exact hjn) (by rw [El1.out]; exact hbad))
        have hcase : kd1 < 2 ∨ (¬ kd1 < 2 ∧ 38 < n1) := by
          have := Hd1.out
          unfold badB at hbad
          simp at hbad
          omega
        clear hbad
        rcases hcase with h1 | ⟨h1, h2⟩
        · go_wp2_with fail
          go_ret2
          unfold PutO
          rw [if_pos Hany.out]
          exact ⟨rfl, hb⟩
        · have h1' : 2 ≤ kd1 := by omega
          have h2' : 38 < (n1 : Int) := by omega
          go_wp2_with fail
          go_ret2
          unfold PutO
          rw [if_pos Hany.out]
          exact ⟨rfl, hb⟩
      · have h1 : 2 ≤ kd1 ∧ n1 ≤ 38 := by
          have := Hd1.out
          unfold badB at hbad
          simp at hbad
          omega
        obtain ⟨h1, h2⟩ := h1
        have h2' : (n1 : Int) ≤ 38 := by omega
        have hw8 : IntKind.u8.wrap (2 + (n1 : Int)) = 2 + (n1 : Int) := by simp [IntKind.wrap, IntKind.bits, IntKind.signed]; omega
        have hw64 : IntKind.i64.wrap (2 + (n1 : Int)) = 2 + (n1 : Int) := IntWalk.i64_in _ (by omega)
        have Hbad := Lib.hid hbad
        clear hbad
        go_wp2_with fail
        have HB3 := Lib.hid (show Below w.heap.size w (wr.alloc (.cells #[.int .u8 kd1, .int .u8 (2 + (n1 : Int))] 5)).drew from Below.drew (hb.alloc hb.size _))
        have Ho3 := Lib.hid (show OwnB (wr.alloc (.cells #[.int .u8 kd1, .int .u8 (2 + (n1 : Int))] 5)).drew w.heap.size A2 m2 c2 (bytesO (ls.take j)) from hown.out.alloc _)
        have Hr3 := Lib.hid (show Rd (wr.alloc (.cells #[.int .u8 kd1, .int .u8 (2 + (n1 : Int))] 5)).drew (some ⟨wr.heap.size, 0, none⟩) 2 [kd1, 2 + (n1 : Int)] from (Rd.const_ wr wr.heap.size rfl [kd1, 2 + (n1 : Int)] 5 (0, 0) (by simp; omega)).below (Below.drew (Below.refl _ _)))
        refine wp_region_held_drew (S := fun w' => w'.cell? ⟨b1, p1, none⟩ = some (.int .u8 kd1) ∧ w'.cell? ⟨b1, p1 + 1, none⟩ = some (.slice A1 n1 c1)) (by kernel_rfl) (Sof.out _ (Below.drew hb)) (fun hHeld => ?_)
        refine wpAnyH_take (i := 0) (oi := { dst := some 27, op := Go.Op.move (Go.Operand.tmp 4), type := 24, pos := "ref.go:64", after := #[], guard := none }) (v := ?_) rfl (by kernel_rfl) (by kernel_rfl) (by kernel_rfl) (fun _ _ _ h => h) (Or.inl ⟨by rfl, ?_⟩) (by assumption) ?_
        rotate_left 1
        · intro w' hSw; (go_simp <;> (with_reducible rfl))
        (try simp only [Act.put, List.setIfInBounds_toArray, List.set_cons_zero, List.set_cons_succ])
        refine wpAnyH_take (i := 1) (oi := { dst := some 28, op := Go.Op.move (Go.Operand.tmp 0), type := 27, pos := "ref.go:64", after := #[], guard := none }) (v := ?_) rfl (by kernel_rfl) (by kernel_rfl) (by kernel_rfl) (fun _ _ _ h => h) (Or.inl ⟨by rfl, ?_⟩) (by assumption) ?_
        rotate_left 1
        · intro w' hSw; (go_simp <;> (with_reducible rfl))
        (try simp only [Act.put, List.setIfInBounds_toArray, List.set_cons_zero, List.set_cons_succ])
        refine wpAnyH_take (i := 2) (oi := { dst := some 29, op := Go.Op.move (Go.Operand.tmp 5), type := 3, pos := "ref.go:64", after := #[], guard := none }) (v := ?_) rfl (by kernel_rfl) (by kernel_rfl) (by kernel_rfl) (fun _ _ _ h => h) (Or.inl ⟨by rfl, ?_⟩) (by assumption) ?_
        rotate_left 1
        · intro w' hSw; (go_simp <;> (with_reducible rfl))
        (try simp only [Act.put, List.setIfInBounds_toArray, List.set_cons_zero, List.set_cons_succ])
        refine wpAnyH_take (i := 3) (oi := { dst := some 30, op := Go.Op.indexAddr 27 (Go.Operand.tmp 28) (Go.Operand.tmp 29), type := 0, pos := "ref.go:64", after := #[{ on := 1, ground := Go.Ground.data }, { on := 2, ground := Go.Ground.data }], guard := none }) (v := ?_) rfl (by kernel_rfl) (by kernel_rfl) (by kernel_rfl) (fun _ _ _ h => h) (Or.inl ⟨by rfl, ?_⟩) (by assumption) ?_
        rotate_left 1
        · intro w' hSw; (go_simp <;> (with_reducible rfl))
        (try simp only [Act.put, List.setIfInBounds_toArray, List.set_cons_zero, List.set_cons_succ])
        refine wpAnyH_take (i := 4) (oi := { dst := some 31, op := Go.Op.fieldAddr 52 (Go.Operand.tmp 30) 0, type := 0, pos := "ref.go:64", after := #[{ on := 3, ground := Go.Ground.data }], guard := none }) (v := ?_) rfl (by kernel_rfl) (by kernel_rfl) (by kernel_rfl) (fun _ _ _ h => h) (Or.inl ⟨by rfl, ?_⟩) (by assumption) ?_
        rotate_left 1
        · intro w' hSw; (go_simp <;> (with_reducible rfl))
        (try simp only [Act.put, List.setIfInBounds_toArray, List.set_cons_zero, List.set_cons_succ])
        refine wpAnyH_take (i := 5) (oi := { dst := some 32, op := Go.Op.load 5 (Go.Operand.tmp 31), type := 5, pos := "ref.go:64", after := #[{ on := 4, ground := Go.Ground.data }], guard := none }) (v := ?_) rfl (by kernel_rfl) (by kernel_rfl) (by kernel_rfl) (fun _ _ _ h => h) (Or.inl ⟨by rfl, ?_⟩) (by assumption) ?_
        rotate_left 1
        · intro w' hSw; (go_simp <;> (with_reducible rfl))
        (try simp only [Act.put, List.setIfInBounds_toArray, List.set_cons_zero, List.set_cons_succ])
        refine wpAnyH_take (i := 6) (oi := { dst := some 33, op := Go.Op.move (Go.Operand.tmp 0), type := 27, pos := "ref.go:64", after := #[], guard := none }) (v := ?_) rfl (by kernel_rfl) (by kernel_rfl) (by kernel_rfl) (fun _ _ _ h => h) (Or.inl ⟨by rfl, ?_⟩) (by assumption) ?_
        rotate_left 1
        · intro w' hSw; (go_simp <;> (with_reducible rfl))
        (try simp only [Act.put, List.setIfInBounds_toArray, List.set_cons_zero, List.set_cons_succ])
        refine wpAnyH_take (i := 7) (oi := { dst := some 34, op := Go.Op.move (Go.Operand.tmp 5), type := 3, pos := "ref.go:64", after := #[], guard := none }) (v := ?_) rfl (by kernel_rfl) (by kernel_rfl) (by kernel_rfl) (fun _ _ _ h => h) (Or.inl ⟨by rfl, ?_⟩) (by assumption) ?_
        rotate_left 1
        · intro w' hSw; (go_simp <;> (with_reducible rfl))
        (try simp only [Act.put, List.setIfInBounds_toArray, List.set_cons_zero, List.set_cons_succ])
        refine wpAnyH_take (i := 8) (oi := { dst := some 35, op := Go.Op.indexAddr 27 (Go.Operand.tmp 33) (Go.Operand.tmp 34), type := 0, pos := "ref.go:64", after := #[{ on := 6, ground := Go.Ground.data }, { on := 7, ground := Go.Ground.data }], guard := none }) (v := ?_) rfl (by kernel_rfl) (by kernel_rfl) (by kernel_rfl) (fun _ _ _ h => h) (Or.inl ⟨by rfl, ?_⟩) (by assumption) ?_
        rotate_left 1
        · intro w' hSw; (go_simp <;> (with_reducible rfl))
        (try simp only [Act.put, List.setIfInBounds_toArray, List.set_cons_zero, List.set_cons_succ])
        refine wpAnyH_take (i := 9) (oi := { dst := some 36, op := Go.Op.fieldAddr 52 (Go.Operand.tmp 35) 1, type := 0, pos := "ref.go:64", after := #[{ on := 8, ground := Go.Ground.data }], guard := none }) (v := ?_) rfl (by kernel_rfl) (by kernel_rfl) (by kernel_rfl) (fun _ _ _ h => h) (Or.inl ⟨by rfl, ?_⟩) (by assumption) ?_
        rotate_left 1
        · intro w' hSw; (go_simp <;> (with_reducible rfl))
        (try simp only [Act.put, List.setIfInBounds_toArray, List.set_cons_zero, List.set_cons_succ])
        refine wpAnyH_take (i := 10) (oi := { dst := some 37, op := Go.Op.load 24 (Go.Operand.tmp 36), type := 24, pos := "ref.go:64", after := #[{ on := 9, ground := Go.Ground.data }], guard := none }) (v := ?_) rfl (by kernel_rfl) (by kernel_rfl) (by kernel_rfl) (fun _ _ _ h => h) (Or.inl ⟨by rfl, ?_⟩) (by assumption) ?_
        rotate_left 1
        · intro w' hSw; (go_simp <;> (with_reducible rfl))
        (try simp only [Act.put, List.setIfInBounds_toArray, List.set_cons_zero, List.set_cons_succ])
        refine wpAnyH_take (i := 11) (oi := { dst := some 38, op := Go.Op.call { callee := Go.Callee.builtin Go.Builtin.len, args := #[Go.Operand.tmp 37], argTypes := #[24] }, type := 3, pos := "ref.go:64", after := #[{ on := 10, ground := Go.Ground.data }], guard := none }) (v := ?_) rfl (by kernel_rfl) (by kernel_rfl) (by kernel_rfl) (fun _ _ _ h => h) (Or.inl ⟨by rfl, ?_⟩) (by assumption) ?_
        rotate_left 1
        · intro w' hSw; (go_simp <;> (with_reducible rfl))
        (try simp only [Act.put, List.setIfInBounds_toArray, List.set_cons_zero, List.set_cons_succ])
        refine wpAnyH_take (i := 12) (oi := { dst := some 39, op := Go.Op.binOp Go.BinOp.add 3 (Go.Operand.const (Go.Value.int Go.IntKind.i64 2)) (Go.Operand.tmp 38) 3, type := 3, pos := "ref.go:64", after := #[{ on := 11, ground := Go.Ground.data }], guard := none }) (v := ?_) rfl (by kernel_rfl) (by kernel_rfl) (by kernel_rfl) (fun _ _ _ h => h) (Or.inl ⟨by rfl, ?_⟩) (by assumption) ?_
        rotate_left 1
        · intro w' hSw; (go_simp <;> (with_reducible rfl))
        (try simp only [Act.put, List.setIfInBounds_toArray, List.set_cons_zero, List.set_cons_succ])
        refine wpAnyH_take (i := 13) (oi := { dst := some 40, op := Go.Op.convert 3 5 (Go.Operand.tmp 39), type := 5, pos := "ref.go:64", after := #[{ on := 12, ground := Go.Ground.data }], guard := none }) (v := ?_) rfl (by kernel_rfl) (by kernel_rfl) (by kernel_rfl) (fun _ _ _ h => h) (Or.inl ⟨by rfl, ?_⟩) (by assumption) ?_
        rotate_left 1
        · intro w' hSw; (go_simp <;> (with_reducible rfl))
        (try simp only [Act.put, List.setIfInBounds_toArray, List.set_cons_zero, List.set_cons_succ])
        refine wpAnyH_ready (rs := [14]) (by kernel_rfl) (by simp) ?_
        refine AllReadyH.cons (o := { dst := some 41, op := Go.Op.buildSlice 24 2 #[(0, Go.Operand.tmp 32), (1, Go.Operand.tmp 40)], type := 24, pos := "ref.go:64", after := #[{ on := 5, ground := Go.Ground.data }, { on := 13, ground := Go.Ground.data }], guard := none }) rfl (fun K hK => ?_) AllReadyH.nil
        go_simp
        skip
        refine hK.out _ _ ?_ (fun hHeld => ?_)
        · exact Sof.out _ HB3.out
        clear hK K
        (try simp only [Act.put, List.setIfInBounds_toArray, List.set_cons_zero, List.set_cons_succ])
        refine wpAnyH_ready (rs := [15]) (by kernel_rfl) (by simp) ?_
        refine AllReadyH.cons (o := { dst := some 42, op := Go.Op.call { callee := Go.Callee.builtin Go.Builtin.append, args := #[Go.Operand.tmp 27, Go.Operand.tmp 41], argTypes := #[24, 24] }, type := 24, pos := "ref.go:64", after := #[{ on := 0, ground := Go.Ground.data }, { on := 14, ground := Go.Ground.data }], guard := none }) rfl (fun K hK => ?_) AllReadyH.nil
        (refine step_app (by rfl) (.tmp 27) (.tmp 41) (by rfl) w.heap.size A2 (some ⟨wr.heap.size, 0, none⟩) m2 c2 2 2 _ [kd1, 2 + (n1 : Int)] (m2 + 2) _ rfl rfl (by rfl) (by rfl) Ho3.out Hr3.out (by omega) HB3.out.size ?_; intro A4 c4 w4 hown4 _ hb4; have HB4 := Lib.hid (HB3.out.trans hb4))
        refine hK.out _ _ ?_ (fun hHeld => ?_)
        · exact Sof.out _ HB4.out
        clear hK K
        (try simp only [Act.put, List.setIfInBounds_toArray, List.set_cons_zero, List.set_cons_succ])
        refine wpAnyH_take (i := 16) (oi := { dst := some 4, op := Go.Op.assign (Go.Operand.tmp 42), type := 24, pos := "ref.go:64", after := #[{ on := 15, ground := Go.Ground.data }, { on := 15, ground := Go.Ground.chain }, { on := 0, ground := Go.Ground.phase }, { on := 1, ground := Go.Ground.phase }, { on := 2, ground := Go.Ground.phase }, { on := 3, ground := Go.Ground.phase }, { on := 4, ground := Go.Ground.phase }, { on := 5, ground := Go.Ground.phase }, { on := 6, ground := Go.Ground.phase }, { on := 7, ground := Go.Ground.phase }, { on := 8, ground := Go.Ground.phase }, { on := 9, ground := Go.Ground.phase }, { on := 10, ground := Go.Ground.phase }, { on := 11, ground := Go.Ground.phase }, { on := 12, ground := Go.Ground.phase }, { on := 13, ground := Go.Ground.phase }, { on := 14, ground := Go.Ground.phase }, { on := 15, ground := Go.Ground.phase }], guard := none }) (v := ?_) rfl (by kernel_rfl) (by kernel_rfl) (by kernel_rfl) (fun _ _ _ h => h) (Or.inl ⟨by rfl, ?_⟩) (by assumption) ?_
        rotate_left 1
        · intro w' hSw; (go_simp <;> (with_reducible rfl))
        (try simp only [Act.put, List.setIfInBounds_toArray, List.set_cons_zero, List.set_cons_succ])
        refine wpAnyH_done (by kernel_rfl) ?_ _
        have hd4 := (Sof.out _ HB4.out).2
        have Hr4 := Lib.hid (Hr1.out.below HB4.out)
        clear HB3 Ho3 Hr3
        go_wp2_with (refine wpList_app rfl (.tmp 43) (.tmp 48) rfl w.heap.size A4 A1 (m2 + 2) c4 n1 c1 _ d1 rfl rfl hown4 Hr4.out (by omega) HB4.out.size ?_; intro A5 c5 w5 hown5 _ hb5 _)
        go_roundg (gk - 1)
        case measure => have := hgk.out; omega
        case rel => exact ⟨j + 1, m2 + 2 + n1, A5, c5, by have := hgk.out; show gk - 1 + (j + 1) = _; omega, by omega, by omega, by go_num, rfl, Lib.hid (by rw [Hsn.out, bytesO_snoc, show bytesOne (kd1, d1) = [kd1, 2 + (n1 : Int)] ++ d1 by unfold bytesOne; rw [Hd1.out], ← List.append_assoc]; exact hown5), Lib.hid (by rw [Hsn.out, List.any_append, hok.out]; simpa using Hbad.out), HB4.out.trans hb5⟩
    · obtain rfl : j = n := by omega
      have ho := hown.out
      have hk := hok.out
      rw [List.take_of_length_le (by rw [Hl.out]; omega)] at ho hk
      have Hk := Lib.hid hk
      clear hk hown hok
      obtain ⟨B0, eB⟩ : ∃ B0, bytesO ls = B0 := ⟨_, rfl⟩
      rw [eB] at ho
      have EB := Lib.hid eB
      have hm2 := ho.len
      have Hm2 := Lib.hid hm2
      clear eB hm2
      by_cases hlong : 40 < m2
      · have hli : 40 < (m2 : Int) := by omega
        go_wp2_with fail
        go_ret2
        unfold PutO
        rw [if_neg (by rw [Hk.out]; simp), EB.out, if_pos (by rw [Hm2.out]; exact hlong)]
        exact ⟨rfl, hb⟩
      · have hli : (m2 : Int) ≤ 40 := by omega
        have Ho := Lib.hid ho
        clear ho
        obtain ⟨P, eP⟩ : ∃ P, (4 - m2 % 4) % 4 = P := ⟨_, rfl⟩
        have EP := Lib.hid eP
        have hP : P < 4 := by omega
        clear eP
        go_wp2_with fail
        go_loopg [4] P (fun gk b wr2 => ∃ (t : Nat) (A3 : Option Addr) (c3 : Nat), Hid (gk + t = P) ∧ t ≤ P ∧ b = .slice A3 (m2 + t) c3 ∧ Hid (OwnB wr2 w.heap.size A3 (m2 + t) c3 (B0 ++ List.replicate t 0)) ∧ Below w.heap.size w wr2)
        case atStart => exact ⟨0, A2, c2, rfl, Nat.zero_le _, rfl, Lib.hid (by simpa using Ho.out), hb⟩
        case round =>
          obtain ⟨t, A3, c3, hgt, ht, rfl, hown3, hb3⟩ := hrel
          have hp := EP.out
          by_cases htP : t < P
          · have hmod : ((m2 + t : Nat) : Int) % 4 ≠ 0 := by omega
            have hmod2 : (((m2 + t : Nat) : Int) % 4 == 0) = false := by simpa using hmod
            have hmod3 : (((m2 + t : Nat) : Int) % 4 != 0) = true := by simpa using hmod
            clear hmod hp
            go_wp2_with (refine wpList_app rfl (.tmp 57) (.tmp 58) rfl w.heap.size A3 _ (m2 + t) c3 1 1 _ [0] rfl rfl (hown3.out.on (Below.alloc (Below.refl _ _) (Nat.le_refl _) _)) (Rd.const_ wr wr.heap.size rfl [0] _ _ (by decide)) (by omega) (by have := hb3.size; simp <;> omega) ?_; intro A4 c4 w4 hown4 _ hb4 _)
            go_roundg (gk - 1)
            case measure => have := hgt.out; omega
            case rel => exact ⟨t + 1, A4, c4, by have := hgt.out; show gk - 1 + (t + 1) = _; omega, by omega, rfl, Lib.hid (by rw [List.replicate_succ', ← List.append_assoc]; exact hown4), (hb3.alloc hb3.size _).trans hb4⟩
          · obtain rfl : t = P := by omega
            have hmod : ((m2 + t : Nat) : Int) % 4 = 0 := by omega
            have hmod2 : (((m2 + t : Nat) : Int) % 4 == 0) = true := by simpa using hmod
            have hmod3 : (((m2 + t : Nat) : Int) % 4 != 0) = false := by simpa using hmod
            clear hmod hp
            go_wp2_with fail
            go_ret2
            unfold PutO
            rw [if_neg (by rw [Hk.out]; simp), EB.out, if_neg (by rw [Hm2.out]; exact hlong)]
            have e : padTo4 B0 = B0 ++ List.replicate t 0 := by unfold padTo4; rw [Hm2.out, EP.out]
            have el : (padTo4 B0).length = m2 + t := by rw [e, List.length_append, Hm2.out, List.length_replicate]
            rw [el, e]
            exact ⟨A3, c3, rfl, hown3.out, hb3⟩
end Go.Proofs.YtkooehejdfaekaaGreat

/-
  Segments (api.Segment): what one holds, one that comes in; culvertref06's Length and Same.
-/
namespace Go.Proofs.YtkooehejdfaekaaGreat
set_option maxRecDepth 10000
open Go.RowKit

/-- A segment, plainly. -/
structure Seg where
  sp : Int
  dp : Int
  sq : Int
  ak : Int
  fl : Int
  wn : Int
  ug : Int
  os : List (Int × List Int)
  d : List Int
/-- Its nine cells, as the model has them. -/
def segC (s : Seg) (AO : Option Addr) (nO cO : Nat) (AD : Option Addr) (nD cD : Nat) : Array Value :=
  #[.int .u16 s.sp, .int .u16 s.dp, .int .u32 s.sq, .int .u32 s.ak, .int .u8 s.fl, .int .u16 s.wn, .int .u16 s.ug, .slice AO nO cO, .slice AD nD cD]
structure SegNum (s : Seg) : Prop where
  sp : 0 ≤ s.sp ∧ s.sp < 65536
  dp : 0 ≤ s.dp ∧ s.dp < 65536
  sq : 0 ≤ s.sq ∧ s.sq < 4294967296
  ak : 0 ≤ s.ak ∧ s.ak < 4294967296
  fl : 0 ≤ s.fl ∧ s.fl < 256
  wn : 0 ≤ s.wn ∧ s.wn < 65536
  ug : 0 ≤ s.ug ∧ s.ug < 65536
/-- A segment's value reads as the segment. -/
structure SegRd (w : World) (s : Seg) (AO : Option Addr) (nO cO : Nat) (oss : List OptV) (AD : Option Addr) (nD cD : Nat) : Prop where
  num : SegNum s
  oc : nO ≤ cO ∧ cO ≤ maxLen
  dc : nD ≤ cD ∧ cD ≤ maxLen
  o : RdO w AO nO oss
  os : Reads w oss s.os
  d : Rd w AD nD s.d
theorem SegRd.below {w w' : World} {s : Seg} {AO : Option Addr} {nO cO : Nat} {oss : List OptV} {AD : Option Addr} {nD cD : Nat} (h : SegRd w s AO nO cO oss AD nD cD) (hb : Below w.heap.size w w') : SegRd w' s AO nO cO oss AD nD cD :=
  ⟨h.num, h.oc, h.dc, h.o.below hb, h.os.below hb, h.d.below hb⟩

def segSame (s t : Seg) : Bool := decide (s.sp = t.sp) && decide (s.dp = t.dp) && decide (s.sq = t.sq) && decide (s.ak = t.ak) && decide (s.fl = t.fl) && decide (s.wn = t.wn) && decide (s.ug = t.ug) && decide (s.os = t.os) && decide (s.d = t.d)
set_option maxHeartbeats 1000000 in
theorem rsame6_any (s t : Seg) (AO AO' : Option Addr) (nO cO nO' cO' : Nat) (oss oss' : List OptV) (AD AD' : Option Addr) (nD cD nD' cD' : Nat) (w : World) (hn : nO ≤ 2000000) (h : SegRd w s AO nO cO oss AD nD cD) (h' : SegRd w t AO' nO' cO' oss' AD' nD' cD') :
    Calls Tryz.prog 33 #[.agg #[.int .u16 s.sp, .int .u16 s.dp, .int .u32 s.sq, .int .u32 s.ak, .int .u8 s.fl, .int .u16 s.wn, .int .u16 s.ug, .slice AO nO cO, .slice AD nD cD], .agg #[.int .u16 t.sp, .int .u16 t.dp, .int .u32 t.sq, .int .u32 t.ak, .int .u8 t.fl, .int .u16 t.wn, .int .u16 t.ug, .slice AO' nO' cO', .slice AD' nD' cD']] w (OptBool (segSame s t) w) := by
  obtain ⟨sp, dp, sq, ak, fl, wn, ug, os, d⟩ := s
  obtain ⟨sp', dp', sq', ak', fl', wn', ug', os', d'⟩ := t
  have hb : Below w.heap.size w ((w.alloc (.cells #[.int .u16 sp, .int .u16 dp, .int .u32 sq, .int .u32 ak, .int .u8 fl, .int .u16 wn, .int .u16 ug, .slice AO nO cO, .slice AD nD cD] 29)).alloc (.cells #[.int .u16 sp', .int .u16 dp', .int .u32 sq', .int .u32 ak', .int .u8 fl', .int .u16 wn', .int .u16 ug', .slice AO' nO' cO', .slice AD' nD' cD'] 29)) := ((Below.refl _ _).alloc (Nat.le_refl _) _).alloc (by simp) _
  have Hs := Lib.hid (rsame_any AO AO' nO cO nO' cO' oss oss' os os' _ (by unfold maxLen; omega) (h.below hb).o (h.below hb).os (h'.below hb).o (h'.below hb).os)
  have hblk1 : ((w.alloc (.cells #[.int .u16 sp, .int .u16 dp, .int .u32 sq, .int .u32 ak, .int .u8 fl, .int .u16 wn, .int .u16 ug, .slice AO nO cO, .slice AD nD cD] 29)).alloc (.cells #[.int .u16 sp', .int .u16 dp', .int .u32 sq', .int .u32 ak', .int .u8 fl', .int .u16 wn', .int .u16 ug', .slice AO' nO' cO', .slice AD' nD' cD'] 29)).heap[w.heap.size]? = some (.cells #[.int .u16 sp, .int .u16 dp, .int .u32 sq, .int .u32 ak, .int .u8 fl, .int .u16 wn, .int .u16 ug, .slice AO nO cO, .slice AD nD cD] 29 (0, 0)) := by rw [Below.heap_alloc _ _ _ (by simp)]; exact heap_alloc_new w _
  have hblk2 : ((w.alloc (.cells #[.int .u16 sp, .int .u16 dp, .int .u32 sq, .int .u32 ak, .int .u8 fl, .int .u16 wn, .int .u16 ug, .slice AO nO cO, .slice AD nD cD] 29)).alloc (.cells #[.int .u16 sp', .int .u16 dp', .int .u32 sq', .int .u32 ak', .int .u8 fl', .int .u16 wn', .int .u16 ug', .slice AO' nO' cO', .slice AD' nD' cD'] 29)).heap[w.heap.size + 1]? = some (.cells #[.int .u16 sp', .int .u16 dp', .int .u32 sq', .int .u32 ak', .int .u8 fl', .int .u16 wn', .int .u16 ug', .slice AO' nO' cO', .slice AD' nD' cD'] 29 (0, 0)) := by
    have := heap_alloc_new (w.alloc (.cells #[.int .u16 sp, .int .u16 dp, .int .u32 sq, .int .u32 ak, .int .u8 fl, .int .u16 wn, .int .u16 ug, .slice AO nO cO, .slice AD nD cD] 29)) (.cells #[.int .u16 sp', .int .u16 dp', .int .u32 sq', .int .u32 ak', .int .u8 fl', .int .u16 wn', .int .u16 ug', .slice AO' nO' cO', .slice AD' nD' cD'] 29)
    simpa using this
  have Hk1 := Lib.hid hblk1
  have Hk2 := Lib.hid hblk2
  clear hblk1 hblk2
  have Hd := Lib.hid (h.below hb).d
  have Hd' := Lib.hid (h'.below hb).d
  have Hb := Lib.hid hb
  clear h h' hb
  simp only
  by_cases hx : sp = sp'
  · subst hx
    by_cases hx : dp = dp'
    · subst hx
      by_cases hx : sq = sq'
      · subst hx
        by_cases hx : ak = ak'
        · subst hx
          by_cases hx : fl = fl'
          · subst hx
            by_cases hx : wn = wn'
            · subst hx
              by_cases hx : ug = ug'
              · subst hx
                go_enter Tryz.func33, Tryz.ntmps33
                go_wp2_with fail
                refine Hs.out.mono ?_
                rintro e w2 ⟨rfl, hb2⟩
                have Hb2 := Lib.hid (Hb.out.trans (hb2.mono Hb.out.size))
                by_cases hx : os = os'
                · subst hx
                  rw [decide_eq_true rfl]
                  have c8 := blk_cell (blk_on Hk1.out hb2) 8
                  have c8' := blk_cell (blk_on Hk2.out hb2) 8
                  have q1 := conv_rd (Hd.out.below hb2) cD
                  have q2 := conv_rd (Hd'.out.below hb2) cD'
                  have Hse := Lib.hid (strs_eq_ d d' Hd.out.byte Hd'.out.byte)
                  have Hx := Lib.hid (show segSame ⟨sp, dp, sq, ak, fl, wn, ug, os, d⟩ ⟨sp, dp, sq, ak, fl, wn, ug, os, d'⟩ = decide (d = d') by unfold segSame; simp)
                  clear hb2
                  go_wp2_with fail
                  go_ret
                  exact ⟨by rw [Hx.out, ← Hse.out]; rfl, Hb2.out⟩
                · rw [decide_eq_false hx]
                  have Hx := Lib.hid (show segSame ⟨sp, dp, sq, ak, fl, wn, ug, os, d⟩ ⟨sp, dp, sq, ak, fl, wn, ug, os', d'⟩ = false by unfold segSame; simp [hx])
                  clear hx hb2
                  go_wp2_with fail
                  go_ret
                  exact ⟨by rw [Hx.out]; rfl, Hb2.out⟩
              · skip
                have hne : (ug == ug') = false := by simpa using hx
                have Hx := Lib.hid (show segSame ⟨sp, dp, sq, ak, fl, wn, ug, os, d⟩ ⟨sp, dp, sq, ak, fl, wn, ug', os', d'⟩ = false by unfold segSame; simp [hx])
                clear hx
                go_enter Tryz.func33, Tryz.ntmps33
                go_wp2_with fail
                go_ret
                exact ⟨by rw [Hx.out]; rfl, Hb.out⟩
            · skip
              have hne : (wn == wn') = false := by simpa using hx
              have Hx := Lib.hid (show segSame ⟨sp, dp, sq, ak, fl, wn, ug, os, d⟩ ⟨sp, dp, sq, ak, fl, wn', ug', os', d'⟩ = false by unfold segSame; simp [hx])
              clear hx
              go_enter Tryz.func33, Tryz.ntmps33
              go_wp2_with fail
              go_ret
              exact ⟨by rw [Hx.out]; rfl, Hb.out⟩
          · skip
            have hne : (fl == fl') = false := by simpa using hx
            have Hx := Lib.hid (show segSame ⟨sp, dp, sq, ak, fl, wn, ug, os, d⟩ ⟨sp, dp, sq, ak, fl', wn', ug', os', d'⟩ = false by unfold segSame; simp [hx])
            clear hx
            go_enter Tryz.func33, Tryz.ntmps33
            go_wp2_with fail
            go_ret
            exact ⟨by rw [Hx.out]; rfl, Hb.out⟩
        · skip
          have hne : (ak == ak') = false := by simpa using hx
          have Hx := Lib.hid (show segSame ⟨sp, dp, sq, ak, fl, wn, ug, os, d⟩ ⟨sp, dp, sq, ak', fl', wn', ug', os', d'⟩ = false by unfold segSame; simp [hx])
          clear hx
          go_enter Tryz.func33, Tryz.ntmps33
          go_wp2_with fail
          go_ret
          exact ⟨by rw [Hx.out]; rfl, Hb.out⟩
      · skip
        have hne : (sq == sq') = false := by simpa using hx
        have Hx := Lib.hid (show segSame ⟨sp, dp, sq, ak, fl, wn, ug, os, d⟩ ⟨sp, dp, sq', ak', fl', wn', ug', os', d'⟩ = false by unfold segSame; simp [hx])
        clear hx
        go_enter Tryz.func33, Tryz.ntmps33
        go_wp2_with fail
        go_ret
        exact ⟨by rw [Hx.out]; rfl, Hb.out⟩
    · skip
      have hne : (dp == dp') = false := by simpa using hx
      have Hx := Lib.hid (show segSame ⟨sp, dp, sq, ak, fl, wn, ug, os, d⟩ ⟨sp, dp', sq', ak', fl', wn', ug', os', d'⟩ = false by unfold segSame; simp [hx])
      clear hx
      go_enter Tryz.func33, Tryz.ntmps33
      go_wp2_with fail
      go_ret
      exact ⟨by rw [Hx.out]; rfl, Hb.out⟩
  · skip
    have hne : (sp == sp') = false := by simpa using hx
    have Hx := Lib.hid (show segSame ⟨sp, dp, sq, ak, fl, wn, ug, os, d⟩ ⟨sp', dp', sq', ak', fl', wn', ug', os', d'⟩ = false by unfold segSame; simp [hx])
    clear hx
    go_enter Tryz.func33, Tryz.ntmps33
    go_wp2_with fail
    go_ret
    exact ⟨by rw [Hx.out]; rfl, Hb.out⟩
end Go.Proofs.YtkooehejdfaekaaGreat

/-
  'make([]byte, m)': a row of noughts of the call's own. No function of the program.
-/
namespace Go.Proofs.YtkooehejdfaekaaGreat
set_option maxRecDepth 10000
open Go.RowKit
theorem made_run (m : Nat) (hm : m ≤ 2147483647) (w : World) :
    (Instr.makeSlice 24 (.int .i64 (m : Int)) (.int .i64 (m : Int))).run Tryz.prog w = .ok (.slice (some ⟨w.heap.size, 0, none⟩) m m) (w.alloc (.cells (madeCells (Value.int .u8 0).cells m) 5)) := by
  obtain ⟨i0, hi, hz0, hz1, hz2⟩ := info_parts info5
  have h := run_make (P := Tryz.prog) w 24 5 i0 (.int .u8 0) Tryz.underlying24 hi hz0 .i64 .i64 (m : Int) (m : Int) (by omega) (by omega) (by rw [hz2]; omega) (by omega)
  rw [hz1] at h
  simpa using h
end Go.Proofs.YtkooehejdfaekaaGreat

/-
  Options' bytes, plainly: what is laid is read again, and what is read may be laid. No function of the program.
-/
namespace Go.Proofs.YtkooehejdfaekaaGreat
set_option maxRecDepth 10000
open Go.RowKit

theorem badB_false {l : Int × List Int} (h : badB l = false) : 2 ≤ l.1 ∧ l.2.length ≤ 38 := by
  unfold badB at h
  simp at h
  omega
theorem behindO_ok (a b : List (Int × List Int)) : behindO a (b, 0) = (a ++ b, 0) := by simp [behindO]
/-- What stands behind options that are laid is read behind them. -/
theorem parseL_bytes (r : List Int) : ∀ (ls : List (Int × List Int)), (∀ l ∈ ls, 2 ≤ l.1) → parseL (bytesO ls ++ r) = behindO ls (parseL r)
  | [], _ => by
    simp only [bytesO, List.flatMap_nil, List.nil_append]
    exact (behindO_nil (parseL r) (parseF_err _ _)).symm
  | l :: ls, h => by
    have h2 := h l (by simp)
    have ih := parseL_bytes r ls (fun x hx => h x (by simp [hx]))
    have e : bytesO (l :: ls) ++ r = l.1 :: (2 + (l.2.length : Int)) :: (l.2 ++ (bytesO ls ++ r)) := by simp [bytesO, bytesOne]
    rw [e, parseL_opt _ _ _ (by omega) (by omega), if_neg (by omega), if_neg (by simp; omega)]
    have e2 : (2 + (l.2.length : Int) - 2).toNat = l.2.length := by omega
    rw [e2, List.take_left, List.drop_left, ih, behindO_app]
    rfl
theorem parseL_zeros (k : Nat) : parseL (List.replicate k 0) = ([], 0) := by
  cases k with
  | zero => rfl
  | succ k => rw [List.replicate_succ, parseL_zero, if_pos (by simp)]
theorem padTo4_len (b : List Int) : (padTo4 b).length % 4 = 0 ∧ b.length ≤ (padTo4 b).length ∧ (padTo4 b).length ≤ b.length + 3 := by
  unfold padTo4
  simp
  omega
/-- What Put tells is read as the options. -/
theorem parseO_put {ls : List (Int × List Int)} (h : ls.any badB = false) (hl : (bytesO ls).length ≤ 40) : parseO (padTo4 (bytesO ls)) = (ls, 0) := by
  have hp := padTo4_len (bytesO ls)
  unfold parseO
  rw [if_neg (by omega)]
  have hk : ∀ l ∈ ls, 2 ≤ l.1 := fun l hl' => (badB_false (by rw [List.any_eq_false] at h; simpa using h l hl')).1
  unfold padTo4
  rw [parseL_bytes _ ls hk, parseL_zeros, behindO_ok, List.append_nil]

/-- What is read may be laid, in no more bytes. -/
theorem parseF_fits : ∀ (f : Nat) (b : List Int), (∀ x ∈ b, 0 ≤ x ∧ x < 256) → b.length ≤ 40 → (parseF f b).1.any badB = false ∧ (bytesO (parseF f b).1).length ≤ b.length
  | 0, b, _, _ => ⟨rfl, by simp [parseF, bytesO]⟩
  | f + 1, [], _, _ => ⟨rfl, by simp [parseF, bytesO]⟩
  | f + 1, k :: r, hb, hl => by
    have hr : ∀ x ∈ r, 0 ≤ x ∧ x < 256 := fun x hx => hb x (by simp [hx])
    have hk := hb k (by simp)
    have hl' : r.length ≤ 39 := by simpa using hl
    unfold parseF
    split
    · split <;> exact ⟨rfl, by simp [bytesO]⟩
    · rename_i h0
      split
      · have ih := parseF_fits f r hr (by omega)
        exact ⟨ih.1, by have := ih.2; simp only [List.length_cons]; omega⟩
      · rename_i h1
        match r, hr, hl' with
        | [], _, _ => exact ⟨rfl, by simp [bytesO]⟩
        | n :: r', hr, hl' =>
          simp only
          split
          · exact ⟨rfl, by simp [bytesO]⟩
          · split
            · exact ⟨rfl, by simp [bytesO]⟩
            · rename_i h2 h3
              have hd : (r'.drop (n - 2).toNat).length = r'.length - (n - 2).toNat := List.length_drop
              have ht : (r'.take (n - 2).toNat).length = (n - 2).toNat := by rw [List.length_take]; omega
              have hl2 : r'.length ≤ 38 := by simpa using hl'
              have ih := parseF_fits f (r'.drop (n - 2).toNat) (fun x hx => hr x (by simp [List.mem_of_mem_drop hx])) (by omega)
              split
              · refine ⟨?_, ?_⟩
                · rw [List.any_cons, ih.1, Bool.or_false]
                  unfold badB
                  simp only [ht, Bool.or_eq_false_iff, decide_eq_false_iff_not]
                  omega
                · have e : (bytesO ((k, r'.take (n - 2).toNat) :: (parseF f (r'.drop (n - 2).toNat)).1)).length = 2 + (n - 2).toNat + (bytesO (parseF f (r'.drop (n - 2).toNat)).1).length := by
                    simp only [bytesO, List.flatMap_cons, bytesOne, List.length_append, ht, List.length_cons, List.length_nil]
                  rw [e]
                  have := ih.2
                  simp only [List.length_cons]
                  omega
              · exact ⟨rfl, by simp [bytesO]⟩
theorem Reads.byte {w : World} : ∀ {os : List OptV} {ls : List (Int × List Int)}, Reads w os ls → ∀ l ∈ ls, (0 ≤ l.1 ∧ l.1 < 256) ∧ ∀ x ∈ l.2, 0 ≤ x ∧ x < 256
  | [], [], _, l, hl => by simp at hl
  | o :: os, l' :: ls, h, l, hl => by
    rcases List.mem_cons.1 hl with rfl | hl
    · obtain ⟨h1, h2, _, _, h5⟩ := h.1
      exact ⟨by rw [← h1]; exact h2, h5.byte⟩
    · exact Reads.byte h.2 l hl
theorem bytesO_bytes {ls : List (Int × List Int)} (h : ∀ l ∈ ls, (0 ≤ l.1 ∧ l.1 < 256) ∧ ∀ x ∈ l.2, 0 ≤ x ∧ x < 256) (h2 : ∀ l ∈ ls, l.2.length ≤ 38) : ∀ x ∈ bytesO ls, 0 ≤ x ∧ x < 256 := by
  intro x hx
  obtain ⟨l, hl, hx⟩ := List.mem_flatMap.1 hx
  have h3 := h l hl
  have h4 := h2 l hl
  simp only [bytesOne, List.mem_append, List.mem_cons, List.not_mem_nil, or_false] at hx
  rcases hx with (rfl | rfl) | hx
  · exact h3.1
  · omega
  · exact h3.2 x hx
end Go.Proofs.YtkooehejdfaekaaGreat
