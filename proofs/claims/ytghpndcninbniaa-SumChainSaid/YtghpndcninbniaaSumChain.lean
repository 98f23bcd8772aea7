/-
  SumChain holds: words that become others one behind the other, in any order and back, leave a field the same but that 0 and ffff stand for each other; the sum of two parts is both sums, added. No condition.
-/
import Derived.Test.YtghpndcninbniaaSumCells
import Derived.Test.YtghpndcninbniaaSumOpen
import Derived.Test.YtghpndcninbniaaQuiet
namespace Go.Proofs.Ytghpndcninbniaa.sumChain
open Go.ChangeShapes Go.WideShapes Go.ChangeAt Go.RowKit
set_option linter.unusedVariables false

/-- The sum of the first k numbers. -/
def ps (l : List Int) (k : Nat) : Int := (l.take k).sum
theorem ps_succ (l : List Int) (k : Nat) (h : k < l.length) : ps l (k + 1) = ps l k + l.getD k 0 := by
  unfold ps
  rw [List.take_succ_eq_append_getElem h, List.sum_append]
  simp [List.getD, List.getElem?_eq_getElem h]
theorem ps_zero (l : List Int) : ps l 0 = 0 := rfl

/-- Nothing that was there has turned. -/
def Old (w w' : World) : Prop := Below w.heap.size w w'
theorem ld_u16 (p : Addr) (x : Int) (w : World) (h : w.cell? p = some (.int .u16 x)) : (Instr.loadAt 25 (.pointer (some p))).run Try.prog w = .ok (.int .u16 x) w := by
  go_simp

/-- How far the first loop has gone. -/
structure Go1 (f : Int) (la lb : List Int) (n k : Nat) (there back : Int) : Prop where
  t : U16 there
  b : U16 back
  tm : there % 65535 = (f + ps la k - ps lb k) % 65535
  bm : back % 65535 = (f + (ps la n - ps la (n - k)) - (ps lb n - ps lb (n - k))) % 65535
theorem Go1.start {f : Int} (hf : U16 f) (la lb : List Int) (n : Nat) : Go1 f la lb n 0 f f := ⟨hf, hf, by simp [ps_zero], by rw [Nat.sub_zero]; congr 1; omega⟩
theorem Go1.step {f : Int} {la lb : List Int} {n k : Nat} {there back x y x' y' : Int} (h : Go1 f la lb n k there back) (hk : k < n) (ha : n ≤ la.length) (hb : n ≤ lb.length)
    (hx : la.getD k 0 = x) (hy : lb.getD k 0 = y) (hx' : la.getD (n - 1 - k) 0 = x') (hy' : lb.getD (n - 1 - k) 0 = y') (ux : U16 x) (uy : U16 y) (ux' : U16 x') (uy' : U16 y') :
    Go1 f la lb n (k + 1) (wordF there x y) (wordF back x' y') := by
  have e1 := ps_succ la k (by omega)
  have e2 := ps_succ lb k (by omega)
  have e3 := ps_succ la (n - 1 - k) (by omega)
  have e4 := ps_succ lb (n - 1 - k) (by omega)
  rw [show n - 1 - k + 1 = n - k by omega] at e3 e4
  rw [hx] at e1; rw [hy] at e2; rw [hx'] at e3; rw [hy'] at e4
  refine ⟨wordF_bd _ _ _ h.t ux uy, wordF_bd _ _ _ h.b ux' uy', ?_, ?_⟩
  · rw [wordF_mod, e1, e2]; have := h.tm; omega
  · rw [wordF_mod, show n - (k + 1) = n - 1 - k by omega]; have := h.bm; omega
theorem Go1.like {f : Int} {la lb : List Int} {n : Nat} {there back : Int} (h : Go1 f la lb n n there back) : likeB there back = true := by
  refine like_of _ _ h.t h.b ?_
  have h1 := h.tm
  have h2 := h.bm
  rw [Nat.sub_self, ps_zero, ps_zero] at h2
  omega
/-- How far the second loop has gone. -/
structure Go2 (f : Int) (la lb : List Int) (n k : Nat) (there : Int) : Prop where
  t : U16 there
  tm : there % 65535 = (f + ps la n - ps lb n + ps lb k - ps la k) % 65535
theorem Go2.start {f : Int} {la lb : List Int} {n : Nat} {there back : Int} (h : Go1 f la lb n n there back) : Go2 f la lb n 0 there := ⟨h.t, by have := h.tm; rw [ps_zero, ps_zero]; omega⟩
theorem Go2.step {f : Int} {la lb : List Int} {n k : Nat} {there x y : Int} (h : Go2 f la lb n k there) (hk : k < n) (ha : n ≤ la.length) (hb : n ≤ lb.length)
    (hx : la.getD k 0 = x) (hy : lb.getD k 0 = y) (ux : U16 x) (uy : U16 y) : Go2 f la lb n (k + 1) (wordF there y x) := by
  have e1 := ps_succ la k (by omega)
  have e2 := ps_succ lb k (by omega)
  rw [hx] at e1; rw [hy] at e2
  exact ⟨wordF_bd _ _ _ h.t uy ux, by rw [wordF_mod, e1, e2]; have := h.tm; omega⟩
theorem Go2.like {f : Int} (hf : U16 f) {la lb : List Int} {n : Nat} {there : Int} (h : Go2 f la lb n n there) : likeB there f = true :=
  like_of _ _ h.t hf (by have := h.tm; omega)

theorem flat1 (l : List Int) : [l].flatten = l := by simp
theorem flat2 (l l' : List Int) : [l, l'].flatten = l ++ l' := by simp
theorem and32 (x : Int) (h0 : 0 ≤ x) (h1 : x < 2 ^ 31) : bits .and .u32 x 65535 = x % 65536 := by
  have h := bits_mask .u32 31 (by decide) (fun n a b => by rw [IntKind.wrap_u32]; omega) 16 (by decide) x h0 h1
  simpa using h

set_option maxRecDepth 100000 in
set_option maxHeartbeats 4000000 in
theorem walk (w : World) (f : Int) (w0 : (Lit.int .u16 f).wf = true) (v1 : Value) (h1 : U16sAt w v1) (v2 : Value) (h2 : U16sAt w v2) (v3 : Value) (h3 : BytesAt w v3) (v4 : Value) (h4 : BytesAt w v4) :
    Calls Try.prog 8 #[.int .u16 f, v1, v2, v3, v4] w fun e w' => e = .returned (.bool true) ∧ Below w.heap.size w w' := by
  obtain ⟨A1, n1, c1, la, rfl, hn1, hc1, r1⟩ := h1
  obtain ⟨A2, n2, c2, lb, rfl, hn2, hc2, r2⟩ := h2
  obtain ⟨A3, n3, c3, ba, rfl, hn3, hc3, r3⟩ := h3
  obtain ⟨A4, n4, c4, bb, rfl, hn4, hc4, r4⟩ := h4
  have hf : U16 f := by have := bounds_u16 w0; unfold U16; omega
  obtain ⟨m, em, hm2, hm1⟩ := min_nat (n2 : Int) n1 (by omega)
  obtain ⟨n, en, hnm, hn30⟩ := min_nat 30 m (by omega)
  have hmin3 : ∀ (ts : Array TypeId) (t : TypeId) (W : World), (Builtin.min_ ts t #[.int .i64 (n1 : Int), .int .i64 (n2 : Int), .int .i64 30]).run Try.prog W = .ok (.int .i64 (n : Int)) W := fun ts t W => by
    rw [run_min_int3, em, en]
  have l1 := r1.len
  have l2 := r2.len
  have hla : n ≤ la.length := by omega
  have hlb : n ≤ lb.length := by omega
  have hnn1 : n ≤ n1 := by omega
  have hnn2 : n ≤ n2 := by omega
  have Hla := Lib.hid hla
  have Hlb := Lib.hid hlb
  have hst := Go1.start hf la lb n
  have hold : Old w w := Below.refl _ _
  clear w0 em en l1 l2 hla hlb hnm hm1 hm2
  go_enter Try.func8, Try.ntmps8
  go_wp2_with fail
  clear hmin3
  go_loopg [12, 13, 14] n (fun gk t b i wr => ∃ (k : Nat) (there back : Int), Hid (gk + k = n) ∧ k ≤ n ∧ t = .int .u16 there ∧ b = .int .u16 back ∧ i = .int .i64 (k : Int) ∧ Go1 f la lb n k there back ∧ Old w wr)
  case atStart => exact ⟨0, f, f, rfl, Nat.zero_le _, rfl, rfl, rfl, hst, hold⟩
  case round =>
    clear hst hold
    obtain ⟨k, there, back, hgk, hk, rfl, rfl, rfl, hgo, hold⟩ := hrel
    by_cases hlt : k < n
    · obtain ⟨p1, e1, d1, q1⟩ := r1.index (c := c1) (show k < n1 by omega)
      obtain ⟨p2, e2, d2, q2⟩ := r2.index (c := c2) (show k < n2 by omega)
      obtain ⟨p3, e3, d3, q3⟩ := r1.index (c := c1) (show n - 1 - k < n1 by omega)
      obtain ⟨p4, e4, d4, q4⟩ := r2.index (c := c2) (show n - 1 - k < n2 by omega)
      have u1 := getD_u16 r1.u16 k
      have u2 := getD_u16 r2.u16 k
      have u3 := getD_u16 r1.u16 (n - 1 - k)
      have u4 := getD_u16 r2.u16 (n - 1 - k)
      have hgo' := hgo.step hlt Hla.out Hlb.out rfl rfl rfl rfl u1 u2 u3 u4
      generalize la.getD k 0 = x1 at *
      generalize lb.getD k 0 = x2 at *
      generalize la.getD (n - 1 - k) 0 = x3 at *
      generalize lb.getD (n - 1 - k) 0 = x4 at *
      have ecast : ((n - 1 - k : Nat) : Int) = (n : Int) - 1 - (k : Int) := by omega
      rw [ecast] at e3 e4
      have f1 : ∀ w', Old w w' → w'.cell? p1 = some (.int .u16 x1) := fun w' h => (Below.cell h q1).trans d1
      have f2 : ∀ w', Old w w' → w'.cell? p2 = some (.int .u16 x2) := fun w' h => (Below.cell h q2).trans d2
      have f3 : ∀ w', Old w w' → w'.cell? p3 = some (.int .u16 x3) := fun w' h => (Below.cell h q3).trans d3
      have f4 : ∀ w', Old w w' → w'.cell? p4 = some (.int .u16 x4) := fun w' h => (Below.cell h q4).trans d4
      have ht := hgo.t
      have hb := hgo.b
      have F1 := Lib.hid f1
      have F2 := Lib.hid f2
      have F3 := Lib.hid f3
      have F4 := Lib.hid f4
      have hs1 : IntKind.i64.wrap ((n : Int) - 1) = (n : Int) - 1 := IntWalk.i64_in _ (by omega)
      have hs2 : IntKind.i64.wrap ((n : Int) - 1 - (k : Int)) = (n : Int) - 1 - (k : Int) := IntWalk.i64_in _ (by omega)
      clear ecast d1 d2 d3 d4 q1 q2 q3 q4 f1 f2 f3 f4 hgo
      go_wp2_with fail
      have hne := class_const (C := Old w) ⟨_, hold⟩
      refine region_class (C := Old w) (by kernel_rfl) (by kernel_rfl) (below_drawn hold _) ?_
      repeat (first | go_big_quiet_skip | (go_big_quiet_want; first | (refine quiet_ld 25 _ p1 (.int .u16 x1) rfl rfl (ld_u16 p1 x1) F1.out ?_; simp only [Act.put, List.setIfInBounds_toArray, List.set_cons_zero, List.set_cons_succ]; go_big_quiet_on) | (refine quiet_ld 25 _ p2 (.int .u16 x2) rfl rfl (ld_u16 p2 x2) F2.out ?_; simp only [Act.put, List.setIfInBounds_toArray, List.set_cons_zero, List.set_cons_succ]; go_big_quiet_on) | (go_big_quiet_op; first | go_big_quiet_on | go_big_quiet_call ((intro hS; first | (go_at_call 17; refine (word_any _ _ _ _ (by assumption) (by assumption) (by assumption)).mono ?_; rintro e w' ⟨rfl, rfl⟩; exact ⟨rfl, hS⟩))))))
      refine wpQuiet_nil ?_
      clear hne
      intro w2 hold2
      have hold := hold2
      clear hold2 F1 F2
      go_wp2_with fail
      have hne := class_const (C := Old w) ⟨_, hold⟩
      refine region_class (C := Old w) (by kernel_rfl) (by kernel_rfl) (below_drawn hold _) ?_
      repeat (first | go_big_quiet_skip | (go_big_quiet_want; first | (refine quiet_ld 25 _ p3 (.int .u16 x3) rfl rfl (ld_u16 p3 x3) F3.out ?_; simp only [Act.put, List.setIfInBounds_toArray, List.set_cons_zero, List.set_cons_succ]; go_big_quiet_on) | (refine quiet_ld 25 _ p4 (.int .u16 x4) rfl rfl (ld_u16 p4 x4) F4.out ?_; simp only [Act.put, List.setIfInBounds_toArray, List.set_cons_zero, List.set_cons_succ]; go_big_quiet_on) | (go_big_quiet_op; first | go_big_quiet_on | go_big_quiet_call ((intro hS; first | (go_at_call 17; refine (word_any _ _ _ _ (by assumption) (by assumption) (by assumption)).mono ?_; rintro e w' ⟨rfl, rfl⟩; exact ⟨rfl, hS⟩))))))
      refine wpQuiet_nil ?_
      clear hne
      intro w3 hold3
      clear hold F3 F4
      go_wp2_with fail
      go_roundg (gk - 1)
      case measure => have := hgk.out; omega
      case rel => exact ⟨k + 1, _, _, by have := hgk.out; show gk - 1 + (k + 1) = _; omega, by omega, rfl, rfl, by go_num, hgo', hold3⟩
    · obtain rfl : k = n := by omega
      have hlike := hgo.like
      have hst2 := Go2.start hgo
      have ht := hgo.t
      clear hgo
      go_wp2_with (go_at_call 27; refine (like_any _ _ _).mono ?_; rintro e w' ⟨rfl, rfl⟩)
      clear hlike
      obtain ⟨wo, rfl⟩ : ∃ wo : World, wo = wr := ⟨_, rfl⟩
      go_loopg [12, 15] k (fun gk t i wr => ∃ (j : Nat) (there : Int), Hid (gk + j = k) ∧ j ≤ k ∧ t = .int .u16 there ∧ i = .int .i64 (j : Int) ∧ Go2 f la lb k j there ∧ Old w wr)
      case atStart => exact ⟨0, there, rfl, Nat.zero_le _, rfl, rfl, hst2, hold⟩
      case round =>
        clear hst2 hold ht
        obtain ⟨j, there, hgk2, hj, rfl, rfl, hgo, hold⟩ := hrel
        by_cases hlt2 : j < k
        · obtain ⟨p1, e1, d1, q1⟩ := r1.index (c := c1) (show j < n1 by omega)
          obtain ⟨p2, e2, d2, q2⟩ := r2.index (c := c2) (show j < n2 by omega)
          have u1 := getD_u16 r1.u16 j
          have u2 := getD_u16 r2.u16 j
          have hgo' := hgo.step hlt2 Hla.out Hlb.out rfl rfl u1 u2
          generalize la.getD j 0 = x1 at *
          generalize lb.getD j 0 = x2 at *
          have f1 : ∀ w', Old w w' → w'.cell? p1 = some (.int .u16 x1) := fun w' h => (Below.cell h q1).trans d1
          have f2 : ∀ w', Old w w' → w'.cell? p2 = some (.int .u16 x2) := fun w' h => (Below.cell h q2).trans d2
          have ht := hgo.t
          have F1 := Lib.hid f1
          have F2 := Lib.hid f2
          clear d1 d2 q1 q2 f1 f2 hgo
          go_wp2_with fail
          have hne := class_const (C := Old w) ⟨_, hold⟩
          refine region_class (C := Old w) (by kernel_rfl) (by kernel_rfl) (below_drawn hold _) ?_
          repeat (first | go_big_quiet_skip | (go_big_quiet_want; first | (refine quiet_ld 25 _ p1 (.int .u16 x1) rfl rfl (ld_u16 p1 x1) F1.out ?_; simp only [Act.put, List.setIfInBounds_toArray, List.set_cons_zero, List.set_cons_succ]; go_big_quiet_on) | (refine quiet_ld 25 _ p2 (.int .u16 x2) rfl rfl (ld_u16 p2 x2) F2.out ?_; simp only [Act.put, List.setIfInBounds_toArray, List.set_cons_zero, List.set_cons_succ]; go_big_quiet_on) | (go_big_quiet_op; first | go_big_quiet_on | go_big_quiet_call ((intro hS; first | (go_at_call 17; refine (word_any _ _ _ _ (by assumption) (by assumption) (by assumption)).mono ?_; rintro e w' ⟨rfl, rfl⟩; exact ⟨rfl, hS⟩))))))
          refine wpQuiet_nil ?_
          clear hne
          intro w3 hold3
          clear hold F1 F2
          go_wp2_with fail
          go_roundg (gk - 1)
          case measure => have := hgk2.out; omega
          case rel => exact ⟨j + 1, _, by have := hgk2.out; show gk - 1 + (j + 1) = _; omega, by omega, rfl, by go_num, hgo', hold3⟩
        · obtain rfl : j = k := by omega
          have hlike := hgo.like hf
          have Hlike := Lib.hid hlike
          have hr3 := r3.below hold
          have hr4 := r4.below hold
          have hB : Below w.heap.size w wr := hold
          clear hgo hlike r1 r2 r3 r4
          have hel := evenL_len ba
          have heb := evenL_byte hr3.byte
          obtain ⟨la5, ela⟩ : ∃ la5, evenL ba = la5 := ⟨_, rfl⟩
          rw [ela] at hel heb
          obtain ⟨m5, em5⟩ : ∃ m5, la5.length = m5 := ⟨_, rfl⟩
          rw [em5] at hel
          have Hela := Lib.hid ela
          have Hm5 := Lib.hid em5
          have Hev := Lib.hid hel.1
          have hm5 : m5 ≤ 140737488351236 := by have h1 := hel.2.2; have h2 := hr3.len; omega
          clear ela em5 hel
          go_wp2_with fail
          refine (even_told A3 n3 c3 ba la5 m5 wr (by omega) hr3 Hela Hm5).mono ?_
          rintro e w4 ⟨A5, c5, rfl, hcap, hcm, hown, hb⟩
          have hr5 := hown.rd heb
          have hr4 := hr4.below hb
          have hB := below_trans hB hb
          have hbytes4 := hr4.byte
          have hsa := ws_nn la5 heb false
          have hsb := ws_nn bb hbytes4 false
          have hev : ws false (la5 ++ bb) = ws false la5 + ws false bb := ws_even _ _ (by rw [Hm5.out]; exact Hev.out)
          have hadd := add_folds _ _ hsa hsb
          have b1 := sumL_bd la5
          have b2 := sumL_bd bb
          have hS : (sumL la5 + sumL bb) % 65536 + (sumL la5 + sumL bb) / 65536 = sumL (la5 ++ bb) := by
            have : sumL (la5 ++ bb) = add16 (sumL la5) (sumL bb) := by unfold sumL; rw [hadd, hev]
            rw [this]
            unfold add16
            split <;> omega
          obtain ⟨s1, es1⟩ : ∃ s1, sumL la5 = s1 := ⟨_, rfl⟩
          obtain ⟨s2, es2⟩ : ∃ s2, sumL bb = s2 := ⟨_, rfl⟩
          rw [es1, es2] at hS
          rw [es1] at b1
          rw [es2] at b2
          have HS := Lib.hid hS
          have Hs1 := Lib.hid es1
          have Hs2 := Lib.hid es2
          obtain ⟨b10, b11⟩ := b1
          obtain ⟨b20, b21⟩ := b2
          have hand := and32 (s1 + s2) (by omega) (by omega)
          clear hev hadd es1 es2 hS hb hsa hsb
          go_wp2_with fail
          refine (sum_told _ 1 1 [la5] _ s1 (by omega) (RdL.one _ _ rfl _ _ _ m5 c5 _ hr5 hcap hcm) (by rw [flat1]; exact Hs1.out)).mono ?_
          rintro e w5 ⟨rfl, hb⟩
          have hr4 := hr4.below (((Below.refl _ _).alloc (Nat.le_refl _) _).trans (hb.mono (by simp)))
          have hr5 := hr5.below (((Below.refl _ _).alloc (Nat.le_refl _) _).trans (hb.mono (by simp)))
          have hB := below_trans (hB.alloc hB.size _) hb
          clear hb
          go_wp2_with fail
          refine (sum_told _ 1 1 [bb] _ s2 (by omega) (RdL.one _ _ rfl _ _ _ n4 c4 _ hr4 hn4 (by unfold maxLen; omega)) (by rw [flat1]; exact Hs2.out)).mono ?_
          rintro e w6 ⟨rfl, hb⟩
          have hr4 := hr4.below (((Below.refl _ _).alloc (Nat.le_refl _) _).trans (hb.mono (by simp)))
          have hr5 := hr5.below (((Below.refl _ _).alloc (Nat.le_refl _) _).trans (hb.mono (by simp)))
          have hB := below_trans (hB.alloc hB.size _) hb
          clear hb
          go_wp2_with fail
          rw [HS.out]
          refine (like_any there f w6).mono ?_
          rintro e w' ⟨rfl, rfl⟩
          rw [Hlike.out]
          obtain ⟨S, eS⟩ : ∃ S, sumL (la5 ++ bb) = S := ⟨_, rfl⟩
          rw [eS]
          obtain ⟨s30, s31⟩ : 0 ≤ S ∧ S ≤ 65535 := by rw [← eS]; exact sumL_bd _
          have HeS := Lib.hid eS
          clear eS
          go_wp2_with fail
          refine (sum_told _ 2 2 [la5, bb] _ S (by omega) (RdL.two _ _ rfl _ _ _ _ m5 n4 c5 c4 _ _ hr5 hcap hcm hr4 hn4 (by unfold maxLen; omega)) (by rw [flat2]; exact HeS.out)).mono ?_
          rintro e w7 ⟨rfl, hb⟩
          have hB := below_trans (hB.alloc hB.size _) hb
          clear hb
          go_wp2_with (go_at_call 16; refine (wakes_any _).mono ?_; rintro e w8 ⟨rfl, hbel⟩)
          go_ret
          exact ⟨rfl, below_trans hB hbel⟩

theorem own : ownKnob Try.prog.godebug = none := by kernel_rfl
theorem laidOut : laidOutB Try.prog = true := by kernel_rfl

set_option maxRecDepth 100000 in
theorem lifted (os : Os) (started : os.Started) (H : Type) (enc : TypeId × Value → H) :
    ReturnsInHanded {} Try.checked os 8 .any (Rows.sumChainSpec.pre6 enc Try.prog Try.f8 Rows.sumChainRow.domain false) (Rows.sumChainSpec.post enc Try.prog Try.f8 false true false false) := by
  refine returnsInHanded_of_change_sized (C := Try.checked) own started (by kernel_rfl) Try.func8
    (ChangeSpec.witness6 (enc := enc) (C := Try.checked) false ⟨#[], #[.int .u16 0, (.slice none 0 0), (.slice none 0 0), (.slice none 0 0), (.slice none 0 0)], []⟩ 8 (by kernel_rfl) (by kernel_rfl) (by kernel_rfl) (by kernel_rfl)) ?_
  intro W base args ds gs before hval0 hW hcnd hsz0 _
  have hsz : (DataW.weightsEach Try.prog (Try.f8.params.toList ++ Rows.sumChainSpec.plain.varTypes Try.prog) (ds ++ gs)).all (· ≤ reachBytes) = true := hsz0
  have hval : ∀ (j : Nat) t v, Try.f8.params[j]? = some t → args[j]? = some v → Value.okWide Try.prog W .any base t v := hval0
  have hW' := hW
  obtain ⟨p, q, hA0, hV, rfl, hfz, hnd⟩ := hW
  have hA : DataW.TrodAll enc Try.prog W 0 (fun _ => true) true Try.f8.params.toList args.toList ds p := hA0
  rw [Try.params8] at hA hval hsz
  obtain ⟨v0, vs0, d0, ds0, p0, q0, hargs, rfl, rfl, h0, r0⟩ := trodAll_cons hA
  obtain ⟨v1, vs1, d1, ds1, p1, q1, rfl, rfl, rfl, h1, r1⟩ := trodAll_cons r0
  obtain ⟨v2, vs2, d2, ds2, p2, q2, rfl, rfl, rfl, h2, r2⟩ := trodAll_cons r1
  obtain ⟨v3, vs3, d3, ds3, p3, q3, rfl, rfl, rfl, h3, r3⟩ := trodAll_cons r2
  obtain ⟨v4, vs4, d4, ds4, p4, q4, rfl, rfl, rfl, h4, r4⟩ := trodAll_cons r3
  obtain ⟨rfl, rfl, rfl⟩ := trodAll_nil r4
  obtain rfl : args = #[v0, v1, v2, v3, v4] := by cases args; simp_all
  obtain ⟨rfl, rfl⟩ := trodVars_none hV
  obtain ⟨a0, rfl, rfl, rfl, w0⟩ := open_int Try.underlying25 (hval 0 25 v0 rfl rfl) h0
  have k1 := u16s_open (hval 1 36 v1 rfl rfl) h1 (fun elems spare e => by subst e; exact sized_slice hsz (j := 1) (t := 36) (e := 25) rfl rfl Try.underlying36)
  have lt1 : ∀ x ∈ p1, x.block < W.heap.size := by obtain ⟨m, hm⟩ := h1; exact DataW.trod_lt m _ _ _ hm
  have k2 := u16s_open (hval 2 36 v2 rfl rfl) h2 (fun elems spare e => by subst e; exact sized_slice hsz (j := 2) (t := 36) (e := 25) rfl rfl Try.underlying36)
  have lt2 : ∀ x ∈ p2, x.block < W.heap.size := by obtain ⟨m, hm⟩ := h2; exact DataW.trod_lt m _ _ _ hm
  have k3 := bytes_open (hval 3 23 v3 rfl rfl) h3 (fun elems spare e => by subst e; exact sized_slice hsz (j := 3) (t := 23) (e := 5) rfl rfl Try.underlying23)
  have lt3 : ∀ x ∈ p3, x.block < W.heap.size := by obtain ⟨m, hm⟩ := h3; exact DataW.trod_lt m _ _ _ hm
  have k4 := bytes_open (hval 4 23 v4 rfl rfl) h4 (fun elems spare e => by subst e; exact sized_slice hsz (j := 4) (t := 23) (e := 5) rfl rfl Try.underlying23)
  have lt4 : ∀ x ∈ p4, x.block < W.heap.size := by obtain ⟨m, hm⟩ := h4; exact DataW.trod_lt m _ _ _ hm
  clear hA0 hval0
  refine (walk W a0 w0 v1 k1 v2 k2 v3 k3 v4 k4).mono fun e W' ⟨he, bel⟩ => ?_
  subst he
  exact ⟨_, rfl, _, _, _, [], _, [], hW', trodAll_mk1 (shut_bool Try.underlying4 _), (trodAll_cons_mk (shut_int Try.underlying25 w0) (trodAll_cons_mk (Below.trod laidOut (by kernel_rfl) (of_decide_eq_true (by kernel_rfl)) h1 bel lt1) (trodAll_cons_mk (Below.trod laidOut (by kernel_rfl) (of_decide_eq_true (by kernel_rfl)) h2 bel lt2) (trodAll_cons_mk (Below.trod laidOut (by kernel_rfl) (of_decide_eq_true (by kernel_rfl)) h3 bel lt3) (trodAll_cons_mk (Below.trod laidOut (by kernel_rfl) (of_decide_eq_true (by kernel_rfl)) h4 bel lt4) trodAll_mk0))))), rfl, bel.frame _, fun h => by cases h⟩

theorem over : Rows.sumChainRow.holds Try.pinned (OpenSpec.ofChange Rows.sumChainSpec) :=
  OpenClaim.holds_of_wide 8 Try.f8 rfl rfl rfl rfl rfl rfl rfl ⟨rfl, rfl, rfl, rfl, rfl⟩ rfl rfl rfl rfl rfl (by kernel_rfl) Try.func8 (by kernel_rfl)
    (of_decide_eq_true (by kernel_rfl)) (by unfold Func.isWrapper; first | (rw [if_pos (by decide +kernel)]; kernel_rfl) | (rw [if_neg (by decide +kernel)]; exact ⟨rfl, rfl⟩))
    (fun os started H enc _ => lifted os started H enc)

/-- The statement. -/
theorem proved : Rows.SumChainSaid := over
#print axioms proved
end Go.Proofs.Ytghpndcninbniaa.sumChain
