/-
  The contract of package opts' Sacks.
-/
import Derived.Test.YtikfklbgncdbnaaOptGet
namespace Go.Proofs.Ytikfklbgncdbnaa
set_option maxRecDepth 10000
open Go.RowKit

/-- An append of blocks at a step of a region that draws its order. -/
theorem step_appK {ops : Array Oper} {o : Oper} {a : Act} {w : World} {K : Act → World → Prop} {Q : Exit → Act → World → Prop} {E : Prop} (hgd : o.guard = none) (s x : Operand)
    (ho : o.op = .call { callee := .builtin .append, args := #[s, x], argTypes := #[42, 42] })
    (B : Nat) (A A' : Option Addr) (n c m c' : Nat) (l l' : List (Int × Int)) (N : Nat) (l2 : List (Int × Int)) (hN : n + m = N) (hl : l ++ l' = l2) (hs : a.eval s = .slice A n c) (hx : a.eval x = .slice A' m c') (h : OwnK 55 w B A n c l) (hr : RdK w A' m l') (h0 : 0 < m) (hsz : (n + m) * 8 ≤ 140737488355328) (hB : B ≤ w.heap.size)
    (hk : ∀ A2 c2 w', OwnK 55 w' B A2 N c2 l2 → w.grownBy w' (Value.slice A n c).ownBlock → Below B w w' → K (a.put o.dst (.slice A2 N c2)) w') :
    if Region.wanted o (yielded ops a.tmps) = true then Oper.wp Try.prog o a w K Q else E := by
  subst hN; subst hl
  have hw : Region.wanted o (yielded ops a.tmps) = true := by simp [Region.wanted, hgd]
  rw [if_pos hw]
  obtain ⟨A2, c2, w', hrun, h1, h2, h3⟩ := appK_o w o.type B A A' n c m c' l l' h hr h0 hsz hB
  unfold Oper.wp execOp
  simp only [ho, resolve, invoke, builtin, Sem.run_bind, Sem.run_pure, Result.andThen_ok, List.map_toArray, List.map_cons, List.map_nil, hs, hx, hrun]
  exact hk A2 c2 w' h1 h2 h3

/-- What the reading of blocks has so far. -/
structure SHold (w : World) (g p : Nat) (A : Option Addr) (m c : Nat) (l : List (Int × Int)) (wr : World) : Prop where
  box : Box wr p 42 (.slice A m c)
  own : OwnK 55 wr w.heap.size A m c l
  but : But (fun k => k = p ∨ k = g) w wr
theorem SHold.drew {w : World} {g p : Nat} {A : Option Addr} {m c : Nat} {l : List (Int × Int)} {wr : World} (h : SHold w g p A m c l wr) : SHold w g p A m c l wr.drew :=
  ⟨h.box.but ((But.refl (fun _ => False) _).drew) (fun x => x), h.own.on (Below.drew (Below.refl _ _)), h.but.drew⟩
theorem SHold.step {w : World} {g p : Nat} {A : Option Addr} {m c : Nat} {l : List (Int × Int)} {wr w' : World} (h : SHold w g p A m c l wr) (hg : g < w.heap.size) (hpg : p ≠ g) (hb : But (fun k => k = g) wr w') : SHold w g p A m c l w' :=
  ⟨h.box.but hb hpg, h.own.butA hb (fun k e => by have := (h.own.blk k ⟨_, e, rfl⟩).1; omega), h.but.trans (hb.mono (fun _ _ h => .inr h))⟩
theorem SHold.more {w : World} {g p : Nat} {A A5 : Option Addr} {m c c5 : Nat} {l l2 : List (Int × Int)} {w4 w6 : World} {o : Obj} (h : SHold w g p A m c l w4) (hp : p < w.heap.size)
    (ho : OwnK 55 w6 w.heap.size A5 (m + 1) c5 l2) (hb : Below w.heap.size (w4.alloc o) w6) :
    SHold w g p A5 (m + 1) c5 l2 (w6.setCell ⟨p, 0, none⟩ (.slice A5 (m + 1) c5)) := by
  have hba : Below w4.heap.size w4 (w4.alloc o) := (Below.refl _ _).alloc (Nat.le_refl _) _
  have hset : But (fun k => k = p) w6 (w6.setCell ⟨p, 0, none⟩ (.slice A5 (m + 1) c5)) := (But.refl (fun k => k = p) _).setCell (p := ⟨p, 0, none⟩) rfl _
  have h6 : But (fun k => k = p ∨ k = g) w w6 := (h.but.trans (But.of hba)).belowB hb
  exact ⟨((h.box.alloc _).below hb hp).set_ _, ho.butA hset (fun k e => by have := (ho.blk k ⟨_, e, rfl⟩).1; omega), h6.trans (hset.mono (fun _ _ h => .inl h))⟩

theorem four {l : List Int} (h : 4 ≤ l.length) : ∃ a b c d, l = a :: b :: c :: d :: l.drop 4 ∧ ((a * 256 + b) * 256 + c) * 256 + d = beN (l.take 4) := by
  match l, h with
  | a :: b :: c :: d :: r, _ => exact ⟨a, b, c, d, rfl, by simp [beN]⟩

def SacksR (p T : Nat) (d : List Int) (w1 : World) (x : Int) (w' : World) : Prop := x = 0 ∧ ∃ A c, Box w' p 42 (.slice A T c) ∧ OwnK 55 w' w1.heap.size A T c (pairsOf T d)

theorem sacks_do (B g p T : Nat) (d : List Int) (w : World) (hd : d.length = 8 * T) (hT : T ≤ 4) (hp : p < B) (hbox : Box w p 42 (.slice none 0 0)) (h : Rdr w B g d 0) :
    Calls Try.prog 54 #[.pointer (some ⟨g, 0, none⟩), .pointer (some ⟨p, 0, none⟩)] w (Did (fun k => k = p) g (SacksR p T d w) w) := by
  have hg : B ≤ g ∧ g < w.heap.size := by
    obtain ⟨A, n, c, _, _, _, hB, _, hg, _⟩ := h
    exact ⟨hB.1, lt_of_block hg⟩
  have hpg : p ≠ g := by omega
  have Hdl := Lib.hid hd
  have Hby := Lib.hid h.bytes
  have Hrd := Lib.hid h
  have Hbox := Lib.hid hbox
  clear h hbox hd
  go_enter Try.func54, Try.ntmps54
  go_wp2_with fail
  go_loopg [] T (fun gk wr => ∃ (t : Nat) (A2 : Option Addr) (c2 : Nat), Hid (gk + t = T) ∧ t ≤ T ∧ Hid (∃ at_, Rdr wr B g (d.drop (8 * t)) at_) ∧ Hid (SHold w g p A2 t c2 (pairsOf t d) wr))
  case atStart => exact ⟨0, none, 0, rfl, Nat.zero_le _, Lib.hid ⟨_, by simpa using Hrd.out⟩, Lib.hid ⟨Hbox.out, OwnK.nil _ _ _, But.refl _ _⟩⟩
  case round =>
    obtain ⟨t, A2, c2, hgk, ht, hR', hH⟩ := hrel
    obtain ⟨at_, hR''⟩ := hR'.out
    have hR := Lib.hid hR''
    clear hR' hR''
    have Hleft := Lib.hid (left_ok B g (d.drop (8 * t)) at_ wr hR.out)
    by_cases htT : t < T
    · have hlen : ((d.drop (8 * t)).length : Int) = 8 * T - 8 * t := by rw [List.length_drop, Hdl.out]; omega
      rw [hlen] at Hleft
      have hpos : 0 < 8 * (T : Int) - 8 * (t : Int) := by omega
      obtain ⟨a1, b1, c1, d1, e1, x1⟩ := four (l := d.drop (8 * t)) (by omega)
      have hdd : (d.drop (8 * t)).drop 4 = d.drop (8 * t + 4) := by rw [List.drop_drop]
      rw [hdd] at e1
      obtain ⟨a2, b2, c3, d2, e2, x2⟩ := four (l := d.drop (8 * t + 4)) (by rw [List.length_drop, Hdl.out]; omega)
      have hdd2 : (d.drop (8 * t + 4)).drop 4 = d.drop (8 * (t + 1)) := by rw [List.drop_drop]; congr 1
      rw [hdd2] at e2
      have hlx : ((d.drop (8 * t)).take 4).length = 4 := by rw [List.length_take, List.length_drop, Hdl.out]; omega
      have hly : ((d.drop (8 * t + 4)).take 4).length = 4 := by rw [List.length_take, List.length_drop, Hdl.out]; omega
      have hx := beN4_u32 _ (fun x hx => Hby.out x (List.mem_of_mem_drop (List.mem_of_mem_take hx))) hlx
      have hy := beN4_u32 _ (fun x hx => Hby.out x (List.mem_of_mem_drop (List.mem_of_mem_take hx))) hly
      have Hp := Lib.hid (show pairsOf (t + 1) d = pairsOf t d ++ [(beN ((d.drop (8 * t)).take 4), beN ((d.drop (8 * t + 4)).take 4))] from rfl)
      obtain ⟨x, ex⟩ : ∃ x, beN ((d.drop (8 * t)).take 4) = x := ⟨_, rfl⟩
      obtain ⟨y, ey⟩ : ∃ y, beN ((d.drop (8 * t + 4)).take 4) = y := ⟨_, rfl⟩
      rw [ex, ey] at Hp
      rw [ex] at hx x1
      rw [ey] at hy x2
      have Hxy : Hid (U32P (x, y)) := Lib.hid ⟨hx, hy⟩
      obtain ⟨w2, ew2⟩ : ∃ w2, wr.drew = w2 := ⟨_, rfl⟩
      have HH2 := Lib.hid hH.out.drew
      have HR2 := Lib.hid (hR.out.below (Below.drew (Below.refl _ _)))
      rw [ew2] at HH2 HR2
      rw [e1] at HR2
      have E2 := Lib.hid e2
      have X1 := Lib.hid x1
      have X2 := Lib.hid x2
      have Hsof := Lib.hid (show ∀ w', SHold w g p A2 t c2 (pairsOf t d) w' → w'.cell? ⟨p, 0, none⟩ = some (.slice A2 t c2) from fun w' h => h.box.cell)
      clear hlen hdd hdd2 hlx hly hx hy ex ey e1 e2 x1 x2
      go_wp2_with fail
      refine Hleft.out.mono ?_
      rintro e w1 ⟨rfl, rfl⟩
      go_wp2_with fail
      refine wp_region_heldL (S := fun w' => w'.cell? ⟨p, 0, none⟩ = some (.slice A2 t c2)) 8 (by kernel_rfl) (by rw [ew2]; exact Hsof.out _ HH2.out) (fun hHeld => ?_)
      refine anyHL_take (i := 0) (oi := { dst := some 6, op := Go.Op.load 42 (Go.Operand.tmp 1), type := 42, pos := "opts.go:120", after := #[], guard := none }) (v := ?_) rfl (by kernel_rfl) (by kernel_rfl) (by kernel_rfl) (by kernel_rfl) (fun _ _ _ h => h) (Or.inl ⟨by rfl, ?_⟩) (by assumption) ?_
      rotate_left 1
      · intro w' hSw; (go_simp <;> (with_reducible rfl))
      (try simp only [Act.put, List.setIfInBounds_toArray, List.set_cons_zero, List.set_cons_succ])
      refine anyHL_take (i := 1) (oi := { dst := some 7, op := Go.Op.move (Go.Operand.tmp 0), type := 71, pos := "opts.go:120", after := #[], guard := none }) (v := ?_) rfl (by kernel_rfl) (by kernel_rfl) (by kernel_rfl) (by kernel_rfl) (fun _ _ _ h => h) (Or.inl ⟨by rfl, ?_⟩) (by assumption) ?_
      rotate_left 1
      · intro w' hSw; (go_simp <;> (with_reducible rfl))
      (try simp only [Act.put, List.setIfInBounds_toArray, List.set_cons_zero, List.set_cons_succ])
      refine anyHL_take (i := 3) (oi := { dst := some 9, op := Go.Op.move (Go.Operand.tmp 0), type := 71, pos := "opts.go:120", after := #[], guard := none }) (v := ?_) rfl (by kernel_rfl) (by kernel_rfl) (by kernel_rfl) (by kernel_rfl) (fun _ _ _ h => h) (Or.inl ⟨by rfl, ?_⟩) (by assumption) ?_
      rotate_left 1
      · intro w' hSw; (go_simp <;> (with_reducible rfl))
      (try simp only [Act.put, List.setIfInBounds_toArray, List.set_cons_zero, List.set_cons_succ])
      refine anyHL_one (i := 2) (o := { dst := some 8, op := Go.Op.call { callee := Go.Callee.value (Go.Operand.func 55), args := #[Go.Operand.tmp 7], argTypes := #[71] }, type := 53, pos := "opts.go:120", after := #[{ on := 1, ground := Go.Ground.data }], guard := none }) (by kernel_rfl) rfl (by kernel_rfl) (fun K hK => ?_)
      go_simp
      (go_at_call 55; refine (u32_told B g a1 b1 c1 d1 _ _ _ HR2.out).mono ?_; rw [X1.out]; rintro e w3 ⟨rfl, hR3, hb3⟩; have HH3 := Lib.hid (HH2.out.step hg.2 hpg hb3); rw [E2.out] at hR3; have HR3 := Lib.hid hR3; clear hR3 hb3)
      refine hK.out _ _ ?_ (fun hHeld => ?_)
      · exact Hsof.out _ HH3.out
      clear hK K
      (try simp only [Act.put, List.setIfInBounds_toArray, List.set_cons_zero, List.set_cons_succ])
      refine anyHL_one (i := 4) (o := { dst := some 10, op := Go.Op.call { callee := Go.Callee.value (Go.Operand.func 55), args := #[Go.Operand.tmp 9], argTypes := #[71] }, type := 53, pos := "opts.go:120", after := #[{ on := 3, ground := Go.Ground.data }, { on := 2, ground := Go.Ground.chain }], guard := none }) (by kernel_rfl) rfl (by kernel_rfl) (fun K hK => ?_)
      go_simp
      (go_at_call 55; refine (u32_told B g a2 b2 c3 d2 _ _ _ HR3.out).mono ?_; rw [X2.out]; rintro e w4 ⟨rfl, hR4, hb4⟩; have HH4 := Lib.hid (HH3.out.step hg.2 hpg hb4); have HR4 := Lib.hid hR4; clear hR4 hb4)
      refine hK.out _ _ ?_ (fun hHeld => ?_)
      · exact Hsof.out _ HH4.out
      clear hK K
      (try simp only [Act.put, List.setIfInBounds_toArray, List.set_cons_zero, List.set_cons_succ])
      refine anyHL_take (i := 5) (oi := { dst := some 11, op := Go.Op.build 55 #[(0, Go.Operand.tmp 8), (1, Go.Operand.tmp 10)], type := 55, pos := "opts.go:120", after := #[{ on := 2, ground := Go.Ground.data }, { on := 4, ground := Go.Ground.data }], guard := none }) (v := ?_) rfl (by kernel_rfl) (by kernel_rfl) (by kernel_rfl) (by kernel_rfl) (fun _ _ _ h => h) (Or.inl ⟨by rfl, ?_⟩) (by assumption) ?_
      rotate_left 1
      · intro w' hSw; (go_simp <;> (with_reducible rfl))
      (try simp only [Act.put, List.setIfInBounds_toArray, List.set_cons_zero, List.set_cons_succ])
      refine anyHL_one (i := 6) (o := { dst := some 12, op := Go.Op.buildSlice 42 1 #[(0, Go.Operand.tmp 11)], type := 42, pos := "opts.go:120", after := #[{ on := 5, ground := Go.Ground.data }], guard := none }) (by kernel_rfl) rfl (by kernel_rfl) (fun K hK => ?_)
      go_simp
      skip
      refine hK.out _ _ ?_ (fun hHeld => ?_)
      · exact (HH4.out.box.alloc _).cell
      clear hK K
      (try simp only [Act.put, List.setIfInBounds_toArray, List.set_cons_zero, List.set_cons_succ])
      refine anyHL_one (i := 7) (o := { dst := some 13, op := Go.Op.call { callee := Go.Callee.builtin Go.Builtin.append, args := #[Go.Operand.tmp 6, Go.Operand.tmp 12], argTypes := #[42, 42] }, type := 42, pos := "opts.go:120", after := #[{ on := 0, ground := Go.Ground.data }, { on := 6, ground := Go.Ground.data }, { on := 4, ground := Go.Ground.chain }], guard := none }) (by kernel_rfl) rfl (by kernel_rfl) (fun K hK => ?_)
      (refine step_appK (by rfl) (.tmp 6) (.tmp 12) (by rfl) w.heap.size A2 (some ⟨w4.heap.size, 0, none⟩) t c2 1 1 _ [(x, y)] (t + 1) _ rfl rfl (by rfl) (by rfl) (HH4.out.own.on ((Below.refl _ _).alloc (Nat.le_refl _) _)) (RdK.one w4 w4.heap.size rfl _ _ x y Hxy.out) (by omega) (by omega) (by have := HH4.out.but.size; simp; omega) ?_; intro A5 c5 w5 hown5 hgr5 hb5; have hbx5 := (HH4.out.box.alloc (.cells #[.int .u32 x, .int .u32 y] 55)).below hb5 (by omega))
      refine hK.out _ _ ?_ (fun hHeld => ?_)
      · exact hbx5.cell
      clear hK K
      (try simp only [Act.put, List.setIfInBounds_toArray, List.set_cons_zero, List.set_cons_succ])
      have hc5 := hbx5.cell
      have hf5 := hbx5.free
      refine anyHL_last (o := { dst := none, op := Go.Op.store 42 (Go.Operand.tmp 1) (Go.Operand.tmp 13), type := 0, pos := "opts.go:120", after := #[{ on := 7, ground := Go.Ground.data }, { on := 7, ground := Go.Ground.chain }, { on := 0, ground := Go.Ground.phase }, { on := 1, ground := Go.Ground.phase }, { on := 2, ground := Go.Ground.phase }, { on := 3, ground := Go.Ground.phase }, { on := 4, ground := Go.Ground.phase }, { on := 5, ground := Go.Ground.phase }, { on := 6, ground := Go.Ground.phase }, { on := 7, ground := Go.Ground.phase }], guard := none }) (by kernel_rfl) rfl (by kernel_rfl) (fun K hK => ?_)
      go_simp
      skip
      refine hK.out _ _ ?_
      clear hK K
      (try simp only [Act.put, List.setIfInBounds_toArray, List.set_cons_zero, List.set_cons_succ])
      have HH7 := Lib.hid (HH4.out.more (by omega) hown5 hb5)
      rw [← Hp.out] at HH7
      have hset : But (fun k => k = p) w5 (w5.setCell ⟨p, 0, none⟩ (.slice A5 (t + 1) c5)) := (But.refl (fun k => k = p) _).setCell (p := ⟨p, 0, none⟩) rfl _
      have HR7 := Lib.hid (((HR4.out.below ((Below.refl _ _).alloc (Nat.le_refl _) (.cells #[.int .u32 x, .int .u32 y] 55))).butY (grown_but hgr5) (fun k hk => .inr (by have := (HH4.out.own.blk k hk).1; omega))).butY hset (fun k hk => .inl (by omega)))
      clear hset hgr5 hb5 hown5 hbx5 hc5 hf5
      go_wp2_with fail
      go_roundg (gk - 1)
      case measure => have := hgk.out; omega
      case rel => exact ⟨t + 1, A5, c5, by have := hgk.out; show gk - 1 + (t + 1) = _; omega, by omega, Lib.hid ⟨_, HR7.out⟩, HH7⟩
    · obtain rfl : T = t := by omega
      have hlen : ((d.drop (8 * T)).length : Int) = 0 := by rw [List.length_drop, Hdl.out]; omega
      rw [hlen] at Hleft
      have Hfin : Hid (Did (fun k => k = p) g (SacksR p T d w) w (.returned (.tuple #[])) wr) := by
        obtain ⟨A', n', c', _, _, _, _, _, hg', _⟩ := hR.out
        exact ⟨0, A', n', c', _, .inl ⟨rfl, rfl⟩, hg', hH.out.but, rfl, A2, c2, hH.out.box, hH.out.own⟩
      go_wp2_with fail
      refine Hleft.out.mono ?_
      rintro e w1 ⟨rfl, rfl⟩
      go_wp2_with fail
      go_end0
      exact Hfin.out

theorem sacks_any (A : Option Addr) (n c m : Nat) (os : List OptV) (ls : List (Int × List Int)) (w : World) (hn : n ≤ 1000000) (hr : RdO w A n os) (hs : Reads w os ls) (hm : (sacksL ls).length = m) :
    Calls Try.prog 28 #[.slice A n c] w (BlksAre 55 m (sacksL ls) w) := by
  have Hm := Lib.hid hm
  clear hm
  have hmf : ∀ (fn : Fn) (first cap : Array Value) (w : World), (Instr.makeFunc fn first cap).run Try.prog w = .ok (.func fn first cap) w := fun _ _ _ _ => rfl
  have hba : Below w.heap.size w (w.alloc (.cells #[.int .i64 8, .int .i64 16, .int .i64 24, .int .i64 32] 3)) := (Below.refl _ _).alloc (Nat.le_refl _) _
  have hi : RdI (w.alloc (.cells #[.int .i64 8, .int .i64 16, .int .i64 24, .int .i64 32] 3)) (some ⟨w.heap.size, 0, none⟩) 4 [8, 16, 24, 32] := RdI.const w w.heap.size rfl [8, 16, 24, 32] _ _
  have Hs := Lib.hid (search_any 5 (some ⟨w.heap.size, 0, none⟩) 4 4 (w.alloc (.cells #[.int .i64 8, .int .i64 16, .int .i64 24, .int .i64 32] 3)))
  have Hfn := Lib.hid (fun w1 p q (hb : Below (w.alloc (.cells #[.int .i64 8, .int .i64 16, .int .i64 24, .int .i64 32] 3)).heap.size (w.alloc (.cells #[.int .i64 8, .int .i64 16, .int .i64 24, .int .i64 32] 3)) w1) (hp : Box w1 p 5 (.int .u8 5)) (hq : Box w1 q 103 (.slice (some ⟨w.heap.size, 0, none⟩) 4 4)) =>
    search1_any 5 p q (some ⟨w.heap.size, 0, none⟩) 4 4 [8, 16, 24, 32] A n c os ls w1 (by omega) hn hp hq (hi.below hb) ((hr.below hba).below hb) ((hs.below hba).below hb))
  rw [findP_sacks] at Hfn
  have Hba := Lib.hid hba
  clear hba hi hr hs
  go_enter Try.func28, Try.ntmps28
  go_wp2_with fail
  refine Hs.out.mono ?_
  rintro e w1 ⟨p, q, rfl, hp, hq, hb⟩
  have Hf := Lib.hid (Hfn.out w1 p q hb hp hq)
  have Hb := Lib.hid (below_trans Hba.out hb)
  clear hp hq hb Hs Hfn
  go_wp2_with fail
  refine Hf.out.mono ?_
  rintro e w2 ⟨hb2, hcase⟩
  obtain ⟨b, A1, n1, c1, d, he, hd, hT, hfin, hr1⟩ : ∃ (b : Bool) (A1 : Option Addr) (n1 c1 : Nat) (d : List Int), e = .returned (.tuple #[.slice A1 n1 c1, .bool b]) ∧ d.length = 8 * m ∧ m ≤ 4 ∧ sacksL ls = pairsOf m d ∧ Rd w2 A1 n1 d := by
    rcases hcase with ⟨hno, rfl⟩ | ⟨l, A1, n1, c1, hl, rfl, hnc, hcm, hr1⟩
    · have h0 : sacksL ls = [] := by unfold sacksL; rw [hno]
      have hm0 : m = 0 := by rw [← Hm.out, h0]; rfl
      subst hm0
      exact ⟨false, none, 0, 0, [], rfl, rfl, by omega, h0, Rd.nil _ _⟩
    · have hlp := List.find?_some hl
      have h1 : sacksL ls = pairsOf (l.2.length / 8) l.2 := by unfold sacksL; rw [hl]
      have hm1 : l.2.length / 8 = m := by rw [← Hm.out, h1, pairsOf_len]
      unfold sacksP at hlp
      simp only [decide_eq_true_eq] at hlp
      exact ⟨true, A1, n1, c1, l.2, rfl, by omega, by omega, by rw [h1, hm1], hr1⟩
  subst he
  have hn1 : n1 ≤ 32 := by have := hr1.len; omega
  have Hfin := Lib.hid hfin
  have Hb2 := Lib.hid (below_trans Hb.out hb2)
  obtain ⟨z, hz⟩ : ∃ z, w2.heap.size = z := ⟨_, rfl⟩
  have hba : Below w2.heap.size w2 (w2.alloc (.cells #[.slice none 0 0] 42)) := (Below.refl _ _).alloc (Nat.le_refl _) _
  have hbox : Box (w2.alloc (.cells #[.slice none 0 0] 42)) z 42 (.slice none 0 0) := by rw [← hz]; exact Box.new _ _ _
  have hsz : (w2.alloc (.cells #[.slice none 0 0] 42)).heap.size = z + 1 := by simp [hz]
  have hdo := fun w3 g (hb : Below (w2.alloc (.cells #[.slice none 0 0] 42)).heap.size (w2.alloc (.cells #[.slice none 0 0] 42)) w3) (_ : (w2.alloc (.cells #[.slice none 0 0] 42)).heap.size ≤ g) (_ : g < w3.heap.size) (hR : Rdr w3 (w2.alloc (.cells #[.slice none 0 0] 42)).heap.size g d 0) =>
    sacks_do _ g z m d w3 hd hT (by omega) (hbox.below hb (by omega)) hR
  have Hread := Lib.hid (read_any (fun k => k = z) _ n1 c1 #[.pointer (some ⟨z, 0, none⟩)] _ (fun _ => rfl) A1 d _ (w2.alloc (.cells #[.slice none 0 0] 42)) (fun k hk => by omega) (by omega) (hr1.below hba) (enter_of Try.func54 (by kernel_rfl) rfl) hdo)
  have Hba2 := Lib.hid hba
  clear hfin hcase hr1 hb2 hba hbox hdo hd
  go_wp2_with fail
  refine Hread.out.mono ?_
  rintro e w4 ⟨x4, w3, w5, rfl, hb1, ⟨hx, A4, c4, hbox, hown⟩, hb4, hb5⟩
  have hw2 := Hb2.out.size
  have hw3 := hb1.size
  have hbox4 := hbox.but hb4 (by omega)
  have hc4 := hbox4.cell
  have Hown4 := Lib.hid ((hown.butA hb4 (fun k e => by have := (hown.blk k ⟨_, e, rfl⟩).1; omega)).mono (B' := w.heap.size) (by omega))
  have hbw := Hb2.out.trans (Hba2.out.mono (B' := w.heap.size) Hb2.out.size)
  have Hbw := Lib.hid (show Below w.heap.size w w4 from hbw.trans (hb5.below (B := w.heap.size) (fun k hk => by omega) (by omega)))
  clear hbw hb1 hx hbox hown hb4 hb5 hbox4
  go_wp2_with fail
  go_ret
  exact ⟨A4, c4, rfl, by rw [Hfin.out]; exact Hown4.out, Hbw.out⟩
end Go.Proofs.Ytikfklbgncdbnaa
