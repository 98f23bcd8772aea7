/-
  What the laws of udp have in common: whether two datagrams have all the same; Parse's error alone; culvertlaw07's awake; what comes in, opened.
-/
import Derived.Test.YtoblllgefmajiaaUdpParse
import Derived.Test.YtoblllgefmajiaaBytesEq
namespace Go.Proofs.Ytoblllgefmajiaa
set_option maxRecDepth 10000
open Go.RowKit

def dgSame (s t : Dg) : Bool := decide (s.sp = t.sp) && (decide (s.dp = t.dp) && decide (s.d = t.d))
theorem dgSame_self (s : Dg) : dgSame s s = true := by simp [dgSame]
theorem usame_any (s t : Dg) (A : Option Addr) (n c : Nat) (A' : Option Addr) (n' c' : Nat) (w : World) (x : Bool) (h : Rd w A n s.d) (h' : Rd w A' n' t.d) (hx : dgSame s t = x) :
    Calls Try.prog 37 #[.agg #[.int .u16 s.sp, .int .u16 s.dp, .slice A n c], .agg #[.int .u16 t.sp, .int .u16 t.dp, .slice A' n' c']] w (BoolIs x w) := by
  obtain ⟨sp, dp, d⟩ := s
  obtain ⟨sp', dp', d'⟩ := t
  simp only at h h' ⊢
  have hb := ((Below.refl w.heap.size w).alloc (Nat.le_refl _) (.cells #[.int .u16 sp, .int .u16 dp, .slice A n c] 57)).alloc (by simp) (.cells #[.int .u16 sp', .int .u16 dp', .slice A' n' c'] 57)
  have H1 := Lib.hid (h.below hb)
  have H2 := Lib.hid (h'.below hb)
  have Hb := Lib.hid hb
  clear h h' hb
  unfold dgSame at hx
  simp only at hx
  by_cases h1 : sp = sp'
  · subst h1
    by_cases h2 : dp = dp'
    · subst h2
      have Hx := Lib.hid (show decide (d = d') = x by simpa using hx)
      clear hx
      skip
      go_enter Try.func37, Try.ntmps37
      go_wp2_with fail
      (refine (bequal_any A A' n n' c c' d d' _ x H1.out H2.out Hx.out).mono ?_; rintro e w' ⟨rfl, rfl⟩; go_wp2_with fail; go_ret; exact ⟨rfl, Hb.out⟩)
    · have h2b : (dp == dp') = false := by simpa using h2
      have Hx := Lib.hid (show x = false by rw [← hx]; simp [h2])
      clear hx h2
      go_enter Try.func37, Try.ntmps37
      go_wp2_with fail
      go_ret
      exact ⟨ret_bool (by rw [Hx.out]), Hb.out⟩
  · have h1b : (sp == sp') = false := by simpa using h1
    have Hx := Lib.hid (show x = false by rw [← hx]; simp [h1])
    clear hx h1
    go_enter Try.func37, Try.ntmps37
    go_wp2_with fail
    go_ret
    exact ⟨ret_bool (by rw [Hx.out]), Hb.out⟩
theorem rusame_any (s t : Dg) (A : Option Addr) (n c : Nat) (A' : Option Addr) (n' c' : Nat) (w : World) (x : Bool) (h : Rd w A n s.d) (h' : Rd w A' n' t.d) (hx : dgSame s t = x) :
    Calls Try.prog 38 #[.agg #[.int .u16 s.sp, .int .u16 s.dp, .slice A n c], .agg #[.int .u16 t.sp, .int .u16 t.dp, .slice A' n' c']] w (BoolIs x w) := by
  obtain ⟨sp, dp, d⟩ := s
  obtain ⟨sp', dp', d'⟩ := t
  simp only at h h' ⊢
  have hb := ((Below.refl w.heap.size w).alloc (Nat.le_refl _) (.cells #[.int .u16 sp, .int .u16 dp, .slice A n c] 57)).alloc (by simp) (.cells #[.int .u16 sp', .int .u16 dp', .slice A' n' c'] 57)
  have H1 := Lib.hid (h.below hb)
  have H2 := Lib.hid (h'.below hb)
  have Hb := Lib.hid hb
  clear h h' hb
  unfold dgSame at hx
  simp only at hx
  by_cases h1 : sp = sp'
  · subst h1
    by_cases h2 : dp = dp'
    · subst h2
      have Hx := Lib.hid (show decide (d = d') = x by simpa using hx)
      clear hx
      (have k1 := conv_rd H1.out c; have k2 := conv_rd H2.out c'; have Hse := Lib.hid ((strs_eqB d d' H1.out.byte H2.out.byte).trans Hx.out); clear H1 H2)
      go_enter Try.func38, Try.ntmps38
      go_wp2_with fail
      (go_ret; exact ⟨ret_bool Hse.out, Hb.out⟩)
    · have h2b : (dp == dp') = false := by simpa using h2
      have Hx := Lib.hid (show x = false by rw [← hx]; simp [h2])
      clear hx h2
      go_enter Try.func38, Try.ntmps38
      go_wp2_with fail
      go_ret
      exact ⟨ret_bool (by rw [Hx.out]), Hb.out⟩
  · have h1b : (sp == sp') = false := by simpa using h1
    have Hx := Lib.hid (show x = false by rw [← hx]; simp [h1])
    clear hx h1
    go_enter Try.func38, Try.ntmps38
    go_wp2_with fail
    go_ret
    exact ⟨ret_bool (by rw [Hx.out]), Hb.out⟩

/-- Parse, of what is wrong alone. -/
def ErrDgIs (x : Int) (w : World) (e : Ending) (w' : World) : Prop :=
  ∃ (a b : Int) (A : Option Addr) (n m : Nat), e = .returned (.tuple #[.agg #[.int .u16 a, .int .u16 b, .slice A n m], .int .i64 x]) ∧ Below w.heap.size w w'
theorem uparse_x (src dst : Int) (A : Option Addr) (n c : Nat) (b : List Int) (x : Int) (w : World) (hc : n ≤ c ∧ c ≤ maxLen) (hA : Rd w A n b) (hx : errU src dst b = x) :
    Calls Try.prog 39 #[.int .u32 src, .int .u32 dst, .slice A n c] w (ErrDgIs x w) := by
  by_cases h0 : x = 0
  · subst h0
    exact (uparse_told src dst A n c _ b _ _ _ w hc hA hx rfl rfl).mono fun e w' ⟨AD, cD, he, _, _, _, hb⟩ => ⟨_, _, _, _, _, he, hb⟩
  · exact (uparse_err src dst A n c b x w hc hA hx h0).mono fun e w' ⟨he, hb⟩ => ⟨_, _, _, _, _, he, hb⟩

theorem aw1 : dgB 0 0 ⟨1, 2, []⟩ = [0, 1, 0, 2, 0, 8, 255, 219] := by decide +kernel
theorem aw2 : errU 0 0 [0, 1, 0, 2, 0, 8, 0, 0] = 0 := by decide +kernel
theorem aw3 : errU 0 0 [0, 1, 0, 2, 0, 8, 255, 220] = 20 := by decide +kernel
theorem aw4 : errU 0 0 [0, 1, 0, 2, 0, 9, 0, 0] = 5 := by decide +kernel

set_option maxHeartbeats 2000000 in
theorem uawake_any (w : World) : Calls Try.prog 36 #[] w (Woke w) := by
  go_enter Try.func36, Try.ntmps36
  go_wp2_with fail
  refine (uput_told 0 0 1 2 [] none 0 0 8 _ _ ⟨by decide, by decide⟩ (by simp [maxLen]) (Rd.nil _ _) (by omega) rfl aw1).mono ?_
  rintro e w1 ⟨A1, c1, rfl, k1, m1, ho1, hb1⟩
  have Ho1 := Lib.hid ho1
  have Hb := Lib.hid hb1
  clear ho1 hb1
  go_wp2_with fail
  obtain ⟨v1, ev⟩ : ∃ v, w1 = v := ⟨_, rfl⟩
  rw [ev] at Hb Ho1 ⊢
  clear ev
  refine (uparse_x 0 0 (some ⟨v1.heap.size, 0, none⟩) 8 8 [0, 1, 0, 2, 0, 8, 0, 0] 0 _ (by simp [maxLen]) (Rd.const_ v1 (v1.heap.size) rfl [0, 1, 0, 2, 0, 8, 0, 0] 5 (0, 0) (by decide)) aw2).mono ?_
  rintro e w2 ⟨a2, b2, A2, n2, m2, rfl, hb2⟩
  have hb' := below_trans (on_alloc hb2) ((Below.refl w2.heap.size w2).alloc (Nat.le_refl _) (.cells #[.int .u16 a2, .int .u16 b2, .slice A2 n2 m2] 57))
  have Hb := Lib.hid (below_trans Hb.out hb')
  have Ho1 := Lib.hid (Ho1.out.on hb')
  clear hb2 hb'
  go_wp2_with fail
  have hv2 := Lib.hid (show (w2.alloc (.cells #[.int .u16 a2, .int .u16 b2, .slice A2 n2 m2] 57)).heap.size = w2.heap.size + 1 by simp)
  obtain ⟨v2, ev⟩ : ∃ v, w2.alloc (.cells #[.int .u16 a2, .int .u16 b2, .slice A2 n2 m2] 57) = v := ⟨_, rfl⟩
  rw [ev] at Hb Ho1 hv2 ⊢
  clear ev
  refine (uparse_x 0 0 (some ⟨w2.heap.size + 1, 0, none⟩) 8 8 [0, 1, 0, 2, 0, 8, 255, 220] 20 _ (by simp [maxLen]) (Rd.const_ v2 (w2.heap.size + 1) hv2.out [0, 1, 0, 2, 0, 8, 255, 220] 5 (0, 0) (by decide)) aw3).mono ?_
  rintro e w3 ⟨a3, b3, A3, n3, m3, rfl, hb3⟩
  have hb' := below_trans (on_alloc hb3) ((Below.refl w3.heap.size w3).alloc (Nat.le_refl _) (.cells #[.int .u16 a3, .int .u16 b3, .slice A3 n3 m3] 57))
  have Hb := Lib.hid (below_trans Hb.out hb')
  have Ho1 := Lib.hid (Ho1.out.on hb')
  clear hb3 hb'
  go_wp2_with fail
  have hv3 := Lib.hid (show (w3.alloc (.cells #[.int .u16 a3, .int .u16 b3, .slice A3 n3 m3] 57)).heap.size = w3.heap.size + 1 by simp)
  obtain ⟨v3, ev⟩ : ∃ v, w3.alloc (.cells #[.int .u16 a3, .int .u16 b3, .slice A3 n3 m3] 57) = v := ⟨_, rfl⟩
  rw [ev] at Hb Ho1 hv3 ⊢
  clear ev
  refine (uparse_x 0 0 (some ⟨w3.heap.size + 1, 0, none⟩) 8 8 [0, 1, 0, 2, 0, 9, 0, 0] 5 _ (by simp [maxLen]) (Rd.const_ v3 (w3.heap.size + 1) hv3.out [0, 1, 0, 2, 0, 9, 0, 0] 5 (0, 0) (by decide)) aw4).mono ?_
  rintro e w4 ⟨a4, b4, A4, n4, m4, rfl, hb4⟩
  have hb' := below_trans (on_alloc hb4) ((Below.refl w4.heap.size w4).alloc (Nat.le_refl _) (.cells #[.int .u16 a4, .int .u16 b4, .slice A4 n4 m4] 57))
  have Hb := Lib.hid (below_trans Hb.out hb')
  have Ho1 := Lib.hid (Ho1.out.on hb')
  clear hb4 hb'
  go_wp2_with fail
  have hv4 := Lib.hid (show (w4.alloc (.cells #[.int .u16 a4, .int .u16 b4, .slice A4 n4 m4] 57)).heap.size = w4.heap.size + 1 by simp)
  obtain ⟨v4, ev⟩ : ∃ v, w4.alloc (.cells #[.int .u16 a4, .int .u16 b4, .slice A4 n4 m4] 57) = v := ⟨_, rfl⟩
  rw [ev] at Hb Ho1 hv4 ⊢
  clear ev
  refine (bequal_any A1 (some ⟨w4.heap.size + 1, 0, none⟩) 8 8 c1 8 [0, 1, 0, 2, 0, 8, 255, 219] [0, 1, 0, 2, 0, 8, 255, 219] _ true ((Ho1.out.rd (by decide)).below ((Below.refl _ _).alloc (Nat.le_refl _) _)) (Rd.const_ v4 (w4.heap.size + 1) hv4.out [0, 1, 0, 2, 0, 8, 255, 219] 5 (0, 0) (by decide)) (by simp)).mono ?_
  rintro e w5 ⟨rfl, rfl⟩
  have Hb := Lib.hid (below_trans Hb.out ((Below.refl _ _).alloc (Nat.le_refl _) (.cells (([0, 1, 0, 2, 0, 8, 255, 219] : List Int).map (Value.int .u8)).toArray 5)))
  go_wp2_with fail
  go_ret
  exact ⟨rfl, Hb.out⟩
end Go.Proofs.Ytoblllgefmajiaa
