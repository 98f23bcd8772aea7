/-
  SeqCuts holds: what is cut out is found again where it was, byte by byte, and nothing of the stretch is left out; two stretches side by side give what both together give. No condition.
-/
import Derived.Test.YtonbgkdobfefmaaSeqPiece
import Derived.Test.YtonbgkdobfefmaaSeqRef
namespace Go.Proofs.Ytonbgkdobfefmaa.seqCuts
open Go.ChangeShapes Go.WideShapes Go.ChangeAt Go.RowKit
set_option linter.unusedVariables false

theorem shift (a f k : Int) (h0 : 0 ≤ k) (h1 : k ≤ 1073741824) : sAhead ((f + k) % 4294967296) a = wrap32 (sAhead f a - k) := by
  unfold sAhead wrap32; omega

theorem drop_parts (l : List Int) (lo mid hi : Nat) (h1 : lo ≤ mid) (h2 : mid ≤ hi) : (l.drop lo).take (mid - lo) ++ (l.drop mid).take (hi - mid) = (l.drop lo).take (hi - lo) := by
  rw [show hi - lo = (mid - lo) + (hi - mid) by omega, List.take_add, List.drop_drop, show lo + (mid - lo) = mid by omega]

theorem parts (a f lg k : Int) (l : List Int) (hl : l.length ≤ 500) (h0 : 0 ≤ k) (h1 : k ≤ lg) (h2 : lg ≤ 1073741824) :
    cutBytes a f k l ++ cutBytes a ((f + k) % 4294967296) (lg - k) l = cutBytes a f lg l := by
  unfold cutBytes
  rw [shift a f k h0 (by omega), show min k 2147483647 = k by omega, show min lg 2147483647 = lg by omega, show min (lg - k) 2147483647 = lg - k by omega]
  have hb := sAhead_bd f a
  generalize sAhead f a = s at *
  by_cases hw : -2147483648 ≤ s - k
  · have e : wrap32 (s - k) = s - k := by unfold wrap32; omega
    rw [e]
    have e1 : pl (0 - (s - k)) l.length = pl (k - s) l.length := by rw [show 0 - (s - k) = k - s by omega]
    have e2 : pl (lg - k - (s - k)) l.length = pl (lg - s) l.length := by rw [show lg - k - (s - k) = lg - s by omega]
    rw [e1, e2]
    exact drop_parts l _ _ _ (pl_mono _ (by omega)) (pl_mono _ (by omega))
  · have e : wrap32 (s - k) = s - k + 4294967296 := by unfold wrap32; omega
    rw [e]
    have e1 : pl (0 - s) l.length = l.length := by unfold pl; omega
    have e2 : pl (lg - k - (s - k + 4294967296)) l.length = 0 := by unfold pl; omega
    rw [e1, e2, List.drop_eq_nil_of_le (Nat.le_refl _)]
    simp

/-- The post of a Cut, the numbers told by name. -/
def CutR (x : Int) (bs : List Int) (m : Nat) (w : World) (e : Ending) (w' : World) : Prop :=
  ∃ A c, e = .returned (.tuple #[.int .u32 x, .slice A m c]) ∧ m ≤ c ∧ Rd w' A m bs ∧ Below w.heap.size w w'
theorem cut_named (a f lg : Int) (A : Option Addr) (n c : Nat) (l : List Int) (x : Int) (bs : List Int) (m : Nat) (w : World) (hl : U32 lg) (hn : n ≤ 2147483647) (hc : n ≤ c) (h : Rd w A n l)
    (hx : Hid (cutFrom a f lg l = x)) (hb : Hid (cutBytes a f lg l = bs)) (hm : Hid (bs.length = m)) :
    Calls Try.prog 18 #[.int .u32 a, .slice A n c, .int .u32 f, .int .u32 lg] w (CutR x bs m w) := by
  have := hx.out; subst this
  have := hb.out; subst this
  have := hm.out; subst this
  exact cut_rd a f lg A n c l w hl hn hc h

theorem made0 (w : World) : OwnB (w.alloc (.cells #[] 5)) w.heap.size (some ⟨w.heap.size, 0, none⟩) 0 0 [] :=
  OwnB.made (cur := #[]) (heap_alloc_new w _) (Nat.le_refl _) (by simp [maxLen]) rfl

theorem ahead_named (a b s : Int) (w : World) (h : Hid (sAhead a b = s)) :
    Calls Try.prog 13 #[.int .u32 a, .int .u32 b] w fun e w' => e = .returned (.int .i32 s) ∧ w = w' := by
  rw [← h.out]; exact ahead_any a b w

theorem equal_true (A A' : Option Addr) (n c c' : Nat) (l l' : List Int) (w : World) (h : Rd w A n l) (h' : Rd w A' n l') (e : Hid (l = l')) :
    Calls Try.prog 20 #[.slice A n c, .slice A' n c'] w fun e w' => e = .returned (.bool true) ∧ w = w' := by
  have := e.out; subst this
  exact (equal_any A A' n n c c' l l w h h').mono fun e w' ⟨he, hw⟩ => ⟨by rw [he]; simp, hw⟩

theorem equal_lists (A A' : Option Addr) (n n' c c' : Nat) (l l' : List Int) (w : World) (h : Rd w A n l) (h' : Rd w A' n' l') (e : Hid (l = l')) :
    Calls Try.prog 20 #[.slice A n c, .slice A' n' c'] w fun e w' => e = .returned (.bool true) ∧ w = w' := by
  have := e.out; subst this
  exact (equal_any A A' n n' c c' l l w h h').mono fun e w' ⟨he, hw⟩ => ⟨by rw [he]; simp, hw⟩

/-- What the loop needs to know of the cut: place by place. -/
theorem cut_place {a f L x : Int} {l1 bs : List Int} {k m : Nat} (hk : l1.length = k) (hx : cutFrom a f L l1 = x) (hb : cutBytes a f L l1 = bs) (hm : bs.length = m) (hL0 : 0 ≤ L) (hL1 : L ≤ 1073741824) :
    m = pl (L - sAhead f a) k - pl (0 - sAhead f a) k ∧ pl (0 - sAhead f a) k ≤ pl (L - sAhead f a) k ∧ pl (L - sAhead f a) k ≤ k ∧ (m = 0 → x = f) ∧
    ∀ j, pl (0 - sAhead f a) k ≤ j → j < pl (L - sAhead f a) k → bs.getD (j - pl (0 - sAhead f a) k) 0 = l1.getD j 0 ∧ (x + ((j - pl (0 - sAhead f a) k : Nat) : Int)) % 4294967296 = (a + (j : Int)) % 4294967296 := by
  have h1 : pl (0 - sAhead f a) k ≤ pl (L - sAhead f a) k := pl_mono k (by omega)
  have h2 : pl (L - sAhead f a) k ≤ k := pl_le _ _
  unfold cutFrom at hx
  unfold cutBytes at hb
  rw [hk, show min L 2147483647 = L by omega] at hx hb
  generalize pl (0 - sAhead f a) k = lo at *
  generalize pl (L - sAhead f a) k = hi at *
  have hmm : m = hi - lo := by rw [← hm, ← hb, List.length_take, List.length_drop]; omega
  refine ⟨hmm, h1, h2, fun h0 => ?_, fun j hj hj2 => ⟨?_, ?_⟩⟩
  · rw [if_pos (by omega)] at hx; exact hx.symm
  · rw [← hb]
    simp only [List.getD, List.getElem?_take_of_lt (show j - lo < hi - lo by omega), List.getElem?_drop, show lo + (j - lo) = j by omega]
  · rw [if_neg (by omega)] at hx
    rw [← hx]
    unfold sAdd
    omega

set_option maxRecDepth 100000 in
set_option maxHeartbeats 4000000 in
theorem walk (w : World) (v : Value) (hp : PieceAt w v) (pt : Int) (wn : (Lit.int .u32 pt).wf = true) :
    Calls Try.prog 7 #[v, .int .u32 pt] w fun e w' => e = .returned (.bool true) ∧ Below w.heap.size w w' := by
  obtain ⟨a, f, lg, A, n0, c, l, rfl, ha, hf, hl, hnc, hc, hr⟩ := hp
  obtain ⟨k, ek, hkn, hk⟩ := min_nat 500 n0 (by omega)
  have hkc : (k : Int) ≤ (c : Int) := by omega
  have hr0 : Rd w A k (l.take k) := hr.take hkn
  obtain ⟨l1, el⟩ : ∃ l1, l1 = l.take k := ⟨_, rfl⟩
  rw [← el] at hr0
  clear el hr
  obtain ⟨hpt0, hpt1⟩ := u32_wf wn
  unfold maxLen at hc
  clear wn
  have hbox : Boxed w a f lg (.slice A k c) (w.alloc (.cells #[.int .u32 a, .int .u32 f, .int .u32 lg, .slice A k c] 32)) := Boxed.new w a f lg (.slice A k c) 0
  have hrd0 := hr0.below hbox.below
  obtain ⟨L, eL⟩ : ∃ L, lg % 1073741825 = L := ⟨_, rfl⟩
  have hL0 : 0 ≤ L := by omega
  have hL1 : L ≤ 1073741824 := by omega
  have HL : Hid (U32 L) := by show U32 L; unfold U32; omega
  obtain ⟨x, ex⟩ : ∃ x, cutFrom a f L l1 = x := ⟨_, rfl⟩
  obtain ⟨bs, eb⟩ : ∃ bs, cutBytes a f L l1 = bs := ⟨_, rfl⟩
  obtain ⟨m, em⟩ : ∃ m, bs.length = m := ⟨_, rfl⟩
  obtain ⟨s, es⟩ : ∃ s, sAhead f a = s := ⟨_, rfl⟩
  have hplace := cut_place hr0.len ex eb em hL0 hL1
  have hsb := sAhead_bd f a
  rw [es] at hplace hsb
  obtain ⟨hs0, hs1⟩ := hsb
  have Hs := Lib.hid es
  clear es
  have Hpl := Lib.hid hplace
  clear hplace
  have X1 := Lib.hid ex
  have B1 := Lib.hid eb
  have M1 := Lib.hid em
  clear ex eb em
  have Ha := Lib.hid ha
  have Hf := Lib.hid hf
  obtain ⟨ha0, ha1⟩ := ha
  obtain ⟨hf0, hf1⟩ := hf
  obtain ⟨hl0, hl1⟩ := hl
  go_enter Try.func7, Try.ntmps7
  go_wp2_with fail
  refine (cut_named a f L A k c l1 x bs m _ HL.out (by omega) (by omega) hrd0 X1 B1 M1).mono ?_
  rintro e w6 ⟨A6, c6, rfl, hc6, hr6, hb6⟩
  have hbox6 := hbox.on hb6
  have hd6 := hrd0.below hb6
  clear hb6 hbox hrd0 ek
  obtain ⟨c0, c1, c2, c3, _, _⟩ := id hbox6
  go_wp2_with fail
  go_loop [8, 43] (fun q i => ∃ (j n : Nat), j ≤ k ∧ i = .int .i64 j ∧ q = .int .i64 n ∧ Hid (n = rQ (pl (0 - s) k) (pl (L - s) k) j)) (fun _ i => k - (intOf i).toNat)
  case atStart => exact ⟨0, 0, Nat.zero_le _, rfl, rfl, by show 0 = rQ _ _ 0; unfold rQ; omega⟩
  case round =>
    obtain ⟨j, n, hj, rfl, rfl, Hn⟩ := hrel
    by_cases hjk : j < k
    · obtain ⟨pa, hpa, hca, _⟩ := hd6.index (c := c) hjk
      have hji : (j : Int) < (k : Int) := by omega
      by_cases h1 : j < pl (0 - s) k
      · have hp : s + (j : Int) < 0 := by unfold pl at h1; omega
        have Ho : Hid (n = rQ (pl (0 - s) k) (pl (L - s) k) (j + 1)) := by show n = _; rw [rQ_out (.inl h1)]; exact Hn.out
        clear h1 Hn
        go_wp2_with (go_at_call 13; refine (ahead_named _ _ s _ Hs).mono ?_; rintro e w' ⟨rfl, rfl⟩)
        go_round
        case rel => exact ⟨j + 1, n, by omega, by go_num, rfl, Ho⟩
        case measure => simp [intOf]; omega
      · have hp0 : 0 ≤ s + (j : Int) := by unfold pl at h1; omega
        by_cases h2 : pl (L - s) k ≤ j
        · have hp1 : L ≤ s + (j : Int) := by unfold pl at h2; omega
          have Ho : Hid (n = rQ (pl (0 - s) k) (pl (L - s) k) (j + 1)) := by show n = _; rw [rQ_out (.inr h2)]; exact Hn.out
          clear h1 h2 Hn
          go_wp2_with (go_at_call 13; refine (ahead_named _ _ s _ Hs).mono ?_; rintro e w' ⟨rfl, rfl⟩)
          go_round
          case rel => exact ⟨j + 1, n, by omega, by go_num, rfl, Ho⟩
          case measure => simp [intOf]; omega
        · have hp1 : s + (j : Int) < L := by unfold pl at h2; omega
          have Ho : Hid (n + 1 = rQ (pl (0 - s) k) (pl (L - s) k) (j + 1)) := by show n + 1 = _; rw [rQ_in (by omega) (by omega), Hn.out]
          obtain ⟨p1, p2, p3, _, p4⟩ := Hpl.out
          obtain ⟨p5, p6⟩ := p4 j (by omega) (by omega)
          have hn : n = j - pl (0 - s) k := by have := Hn.out; unfold rQ at this; omega
          rw [← hn] at p5 p6
          have hnm : n < m := by omega
          obtain ⟨pb, hpb, hcb, _⟩ := hr6.index (c := c6) hnm
          rw [p5] at hcb
          have hni : (n : Int) < (m : Int) := by omega
          have hn1 : n ≤ 1000000 := by omega
          have P6 := Lib.hid p6
          clear h1 h2 Hn p1 p2 p3 p4 p5 hn
          go_wp2_with (go_at_call 13; refine (ahead_named _ _ s _ Hs).mono ?_; rintro e w' ⟨rfl, rfl⟩)
          go_round
          case rel => exact ⟨j + 1, n + 1, by omega, by go_num, by go_num, Ho⟩
          case measure => simp [intOf]; omega
    · have hji : (k : Int) ≤ (j : Int) := by omega
      obtain ⟨p1, p2, p3, p7, _⟩ := Hpl.out
      obtain rfl : n = m := by have := Hn.out; unfold rQ at this; omega
      clear p1 p2 p3 Hn
      have hxf : n = 0 → x = f := p7
      have Hxf := Lib.hid hxf
      clear hxf p7
      by_cases hL : 0 < L
      · obtain ⟨kk, ek⟩ : ∃ kk, pt % L = kk := ⟨_, rfl⟩
        have hk0 : 0 ≤ kk := by rw [← ek]; exact Int.emod_nonneg _ (by omega)
        have hk1 : kk < L := by rw [← ek]; exact Int.emod_lt_of_pos _ hL
        have hk2 : kk ≤ L := by omega
        have hLz : (L == 0) = false := by simp; omega
        by_cases hn0 : n = 0
        · subst hn0
          obtain rfl : f = x := (Hxf.out rfl).symm
          have E : cutBytes a f kk l1 ++ cutBytes a ((f + kk) % 4294967296) (L - kk) l1 = cutBytes a f L l1 := by
            have E0 := parts a f L kk l1 (by rw [hr0.len]; omega) hk0 hk2 hL1
            rw [show (f + kk) % 4294967296 = ((f + kk) % 4294967296) by omega, show L - kk = (L - kk) by omega] at E0
            exact E0
          have S1 : Hid (sAhead ((f + kk) % 4294967296) a = wrap32 (s - kk)) := by
            show _ = _
            rw [show ((f + kk) % 4294967296) = (f + kk) % 4294967296 by omega, shift a f kk hk0 (by omega), Hs.out]
            try (unfold wrap32; omega)
          obtain ⟨x2, ex2⟩ : ∃ x2, cutFrom a f kk l1 = x2 := ⟨_, rfl⟩
          obtain ⟨bs2, eb2⟩ : ∃ bs2, cutBytes a f kk l1 = bs2 := ⟨_, rfl⟩
          obtain ⟨m2, em2⟩ : ∃ m2, bs2.length = m2 := ⟨_, rfl⟩
          obtain ⟨x3, ex3⟩ : ∃ x3, cutFrom a ((f + kk) % 4294967296) (L - kk) l1 = x3 := ⟨_, rfl⟩
          obtain ⟨bs3, eb3⟩ : ∃ bs3, cutBytes a ((f + kk) % 4294967296) (L - kk) l1 = bs3 := ⟨_, rfl⟩
          obtain ⟨m3, em3⟩ : ∃ m3, bs3.length = m3 := ⟨_, rfl⟩
          have hm2 : m2 ≤ 500 := by rw [← em2, ← eb2]; unfold cutBytes; rw [List.length_take, List.length_drop, hr0.len]; omega
          have hm3 : m3 ≤ 500 := by rw [← em3, ← eb3]; unfold cutBytes; rw [List.length_take, List.length_drop, hr0.len]; omega
          have EE : Hid (bs2 ++ bs3 = bs) := by show _ = _; rw [← eb2, ← eb3, ← B1.out]; exact E
          have X2 := Lib.hid ex2
          have B2 := Lib.hid eb2
          have M2 := Lib.hid em2
          have X3 := Lib.hid ex3
          have B3 := Lib.hid eb3
          have M3 := Lib.hid em3
          clear E ex2 eb2 em2 ex3 eb3 em3
          have HK : Hid (U32 kk) := by show U32 _; unfold U32; omega
          have HK3 : Hid (U32 (L - kk)) := by show U32 _; unfold U32; omega
          go_wp2_with fail
          refine (cut_named a f kk A k c l1 x2 bs2 m2 w6 HK.out (by omega) (by omega) hd6 X2 B2 M2).mono ?_
          rintro e w7 ⟨A7, c7, rfl, hc7, hr7, hb7⟩
          have hbox7 := hbox6.on hb7
          have hd7 := hd6.below hb7
          have hr6 := hr6.below hb7
          clear hb7 hbox6 hd6 c0 c1 c2 c3
          obtain ⟨c0, c1, c2, c3, _, _⟩ := id hbox7
          go_wp2_with fail
          go_quiet ((first | (go_at_call 13; refine (ahead_named _ _ _ _ S1).mono ?_; rintro e w' ⟨rfl, rfl⟩; exact ⟨rfl, _, rfl⟩) | (go_at_call 13; refine (ahead_named _ _ _ _ Hs).mono ?_; rintro e w' ⟨rfl, rfl⟩; exact ⟨rfl, _, rfl⟩)))
          have hr6 : Rd (w7.drewN nq) A6 _ bs := ⟨hr6.len, hr6.byte, hr6.at_⟩
          have hr7 : Rd (w7.drewN nq) A7 m2 bs2 := ⟨hr7.len, hr7.byte, hr7.at_⟩
          have hd7 : Rd (w7.drewN nq) A k l1 := ⟨hd7.len, hd7.byte, hd7.at_⟩
          have hB7 : Below w.heap.size w (w7.drewN nq) := below_drewN hbox7.below nq
          go_wp2_with fail
          refine (cut_named a ((f + kk) % 4294967296) (L - kk) A k c l1 x3 bs3 m3 (w7.drewN nq) HK3.out (by omega) (by omega) hd7 X3 B3 M3).mono ?_
          rintro e w8 ⟨A8, c8, rfl, hc8, hr8, hb8⟩
          have hr6 := hr6.below hb8
          have hr7 := hr7.below hb8
          have hB8 := below_trans hB7 hb8
          clear hb8 hbox7 hd7 c0 c1 c2 c3 hB7
          go_wp2_with (first | (go_at_call 10; refine (awake_any _).mono ?_; rintro e w9 ⟨rfl, hb9⟩; have hr6 := hr6.below hb9; have hr7 := hr7.below hb9; have hr8 := hr8.below hb9; have hB9 := below_trans hB8 hb9; clear hb9) | (refine wpList_appG rfl (.tmp 156) (.tmp 157) rfl w9.heap.size (some ⟨w9.heap.size, 0, none⟩) A7 0 0 m2 c7 [] bs2 rfl rfl (made0 w9) (hr7.below ((Below.refl _ _).alloc (Nat.le_refl _) _)) (by omega) (by simp) ?_; intro A11 c11 w11 hown11 _ hb11 _; have hown11 : OwnB w11 w9.heap.size A11 m2 c11 bs2 := by simpa using hown11) | (refine wpList_appG rfl (.tmp 158) (.tmp 159) rfl w9.heap.size A11 A8 m2 c11 m3 c8 bs2 bs3 rfl rfl hown11 (hr8.below (((Below.refl _ _).alloc (Nat.le_refl _) _).trans hb11)) (by omega) (Nat.le_trans (by simp) hb11.size) ?_; intro A12 c12 w12 hown12 _ hb12 _; have hb92 : Below w9.heap.size w9 w12 := (((Below.refl _ _).alloc (Nat.le_refl _) _).trans hb11).trans hb12; have hr6 := hr6.below hb92; have hr12 := hown12.rd (by rw [EE.out]; exact hr6.byte); have hB12 := below_trans hB9 hb92) | (go_at_call 20; refine (equal_lists _ _ _ _ _ _ _ _ _ hr12 hr6 EE).mono ?_; rintro e w' ⟨rfl, rfl⟩))
          go_ret
          exact ⟨rfl, hB12⟩
        · have hn1 : ((n : Int) == 0) = false := by simp; omega
          clear hn0
          have E : cutBytes a f kk l1 ++ cutBytes a ((f + kk) % 4294967296) (L - kk) l1 = cutBytes a f L l1 := by
            have E0 := parts a f L kk l1 (by rw [hr0.len]; omega) hk0 hk2 hL1
            rw [show (f + kk) % 4294967296 = ((f + kk) % 4294967296) by omega, show L - kk = (L - kk) by omega] at E0
            exact E0
          have S1 : Hid (sAhead ((f + kk) % 4294967296) a = wrap32 (s - kk)) := by
            show _ = _
            rw [show ((f + kk) % 4294967296) = (f + kk) % 4294967296 by omega, shift a f kk hk0 (by omega), Hs.out]
            try (unfold wrap32; omega)
          obtain ⟨x2, ex2⟩ : ∃ x2, cutFrom a f kk l1 = x2 := ⟨_, rfl⟩
          obtain ⟨bs2, eb2⟩ : ∃ bs2, cutBytes a f kk l1 = bs2 := ⟨_, rfl⟩
          obtain ⟨m2, em2⟩ : ∃ m2, bs2.length = m2 := ⟨_, rfl⟩
          obtain ⟨x3, ex3⟩ : ∃ x3, cutFrom a ((f + kk) % 4294967296) (L - kk) l1 = x3 := ⟨_, rfl⟩
          obtain ⟨bs3, eb3⟩ : ∃ bs3, cutBytes a ((f + kk) % 4294967296) (L - kk) l1 = bs3 := ⟨_, rfl⟩
          obtain ⟨m3, em3⟩ : ∃ m3, bs3.length = m3 := ⟨_, rfl⟩
          have hm2 : m2 ≤ 500 := by rw [← em2, ← eb2]; unfold cutBytes; rw [List.length_take, List.length_drop, hr0.len]; omega
          have hm3 : m3 ≤ 500 := by rw [← em3, ← eb3]; unfold cutBytes; rw [List.length_take, List.length_drop, hr0.len]; omega
          have EE : Hid (bs2 ++ bs3 = bs) := by show _ = _; rw [← eb2, ← eb3, ← B1.out]; exact E
          have X2 := Lib.hid ex2
          have B2 := Lib.hid eb2
          have M2 := Lib.hid em2
          have X3 := Lib.hid ex3
          have B3 := Lib.hid eb3
          have M3 := Lib.hid em3
          clear E ex2 eb2 em2 ex3 eb3 em3
          have HK : Hid (U32 kk) := by show U32 _; unfold U32; omega
          have HK3 : Hid (U32 (L - kk)) := by show U32 _; unfold U32; omega
          go_wp2_with fail
          refine (cut_named a f kk A k c l1 x2 bs2 m2 w6 HK.out (by omega) (by omega) hd6 X2 B2 M2).mono ?_
          rintro e w7 ⟨A7, c7, rfl, hc7, hr7, hb7⟩
          have hbox7 := hbox6.on hb7
          have hd7 := hd6.below hb7
          have hr6 := hr6.below hb7
          clear hb7 hbox6 hd6 c0 c1 c2 c3
          obtain ⟨c0, c1, c2, c3, _, _⟩ := id hbox7
          go_wp2_with fail
          go_quiet ((first | (go_at_call 13; refine (ahead_named _ _ _ _ S1).mono ?_; rintro e w' ⟨rfl, rfl⟩; exact ⟨rfl, _, rfl⟩) | (go_at_call 13; refine (ahead_named _ _ _ _ Hs).mono ?_; rintro e w' ⟨rfl, rfl⟩; exact ⟨rfl, _, rfl⟩)))
          have hr6 : Rd (w7.drewN nq) A6 _ bs := ⟨hr6.len, hr6.byte, hr6.at_⟩
          have hr7 : Rd (w7.drewN nq) A7 m2 bs2 := ⟨hr7.len, hr7.byte, hr7.at_⟩
          have hd7 : Rd (w7.drewN nq) A k l1 := ⟨hd7.len, hd7.byte, hd7.at_⟩
          have hB7 : Below w.heap.size w (w7.drewN nq) := below_drewN hbox7.below nq
          go_wp2_with fail
          refine (cut_named a ((f + kk) % 4294967296) (L - kk) A k c l1 x3 bs3 m3 (w7.drewN nq) HK3.out (by omega) (by omega) hd7 X3 B3 M3).mono ?_
          rintro e w8 ⟨A8, c8, rfl, hc8, hr8, hb8⟩
          have hr6 := hr6.below hb8
          have hr7 := hr7.below hb8
          have hB8 := below_trans hB7 hb8
          clear hb8 hbox7 hd7 c0 c1 c2 c3 hB7
          go_wp2_with (first | (go_at_call 10; refine (awake_any _).mono ?_; rintro e w9 ⟨rfl, hb9⟩; have hr6 := hr6.below hb9; have hr7 := hr7.below hb9; have hr8 := hr8.below hb9; have hB9 := below_trans hB8 hb9; clear hb9) | (refine wpList_appG rfl (.tmp 156) (.tmp 157) rfl w9.heap.size (some ⟨w9.heap.size, 0, none⟩) A7 0 0 m2 c7 [] bs2 rfl rfl (made0 w9) (hr7.below ((Below.refl _ _).alloc (Nat.le_refl _) _)) (by omega) (by simp) ?_; intro A11 c11 w11 hown11 _ hb11 _; have hown11 : OwnB w11 w9.heap.size A11 m2 c11 bs2 := by simpa using hown11) | (refine wpList_appG rfl (.tmp 158) (.tmp 159) rfl w9.heap.size A11 A8 m2 c11 m3 c8 bs2 bs3 rfl rfl hown11 (hr8.below (((Below.refl _ _).alloc (Nat.le_refl _) _).trans hb11)) (by omega) (Nat.le_trans (by simp) hb11.size) ?_; intro A12 c12 w12 hown12 _ hb12 _; have hb92 : Below w9.heap.size w9 w12 := (((Below.refl _ _).alloc (Nat.le_refl _) _).trans hb11).trans hb12; have hr6 := hr6.below hb92; have hr12 := hown12.rd (by rw [EE.out]; exact hr6.byte); have hB12 := below_trans hB9 hb92) | (go_at_call 20; refine (equal_lists _ _ _ _ _ _ _ _ _ hr12 hr6 EE).mono ?_; rintro e w' ⟨rfl, rfl⟩))
          go_ret
          exact ⟨rfl, hB12⟩
      · obtain rfl : L = 0 := by omega
        have hk0 : (0 : Int) ≤ 0 := by omega
        have hk2 : (0 : Int) ≤ 0 := by omega
        by_cases hn0 : n = 0
        · subst hn0
          obtain rfl : f = x := (Hxf.out rfl).symm
          have E : cutBytes a f (0 : Int) l1 ++ cutBytes a f (0 : Int) l1 = cutBytes a f (0 : Int) l1 := by
            have E0 := parts a f (0 : Int) (0 : Int) l1 (by rw [hr0.len]; omega) hk0 hk2 hL1
            rw [show (f + (0 : Int)) % 4294967296 = f by omega, show (0 : Int) - (0 : Int) = (0 : Int) by omega] at E0
            exact E0
          have S1 : Hid (sAhead f a = s) := by
            show _ = _
            rw [show f = (f + (0 : Int)) % 4294967296 by omega, shift a f (0 : Int) hk0 (by omega), Hs.out]
            try (unfold wrap32; omega)
          obtain ⟨x2, ex2⟩ : ∃ x2, cutFrom a f (0 : Int) l1 = x2 := ⟨_, rfl⟩
          obtain ⟨bs2, eb2⟩ : ∃ bs2, cutBytes a f (0 : Int) l1 = bs2 := ⟨_, rfl⟩
          obtain ⟨m2, em2⟩ : ∃ m2, bs2.length = m2 := ⟨_, rfl⟩
          obtain ⟨x3, ex3⟩ : ∃ x3, cutFrom a f (0 : Int) l1 = x3 := ⟨_, rfl⟩
          obtain ⟨bs3, eb3⟩ : ∃ bs3, cutBytes a f (0 : Int) l1 = bs3 := ⟨_, rfl⟩
          obtain ⟨m3, em3⟩ : ∃ m3, bs3.length = m3 := ⟨_, rfl⟩
          have hm2 : m2 ≤ 500 := by rw [← em2, ← eb2]; unfold cutBytes; rw [List.length_take, List.length_drop, hr0.len]; omega
          have hm3 : m3 ≤ 500 := by rw [← em3, ← eb3]; unfold cutBytes; rw [List.length_take, List.length_drop, hr0.len]; omega
          have EE : Hid (bs2 ++ bs3 = bs) := by show _ = _; rw [← eb2, ← eb3, ← B1.out]; exact E
          have X2 := Lib.hid ex2
          have B2 := Lib.hid eb2
          have M2 := Lib.hid em2
          have X3 := Lib.hid ex3
          have B3 := Lib.hid eb3
          have M3 := Lib.hid em3
          clear E ex2 eb2 em2 ex3 eb3 em3
          have HK : Hid (U32 (0 : Int)) := by show U32 _; unfold U32; omega
          have HK3 : Hid (U32 (0 : Int)) := by show U32 _; unfold U32; omega
          go_wp2_with fail
          refine (cut_named a f (0 : Int) A k c l1 x2 bs2 m2 w6 HK.out (by omega) (by omega) hd6 X2 B2 M2).mono ?_
          rintro e w7 ⟨A7, c7, rfl, hc7, hr7, hb7⟩
          have hbox7 := hbox6.on hb7
          have hd7 := hd6.below hb7
          have hr6 := hr6.below hb7
          clear hb7 hbox6 hd6 c0 c1 c2 c3
          obtain ⟨c0, c1, c2, c3, _, _⟩ := id hbox7
          go_wp2_with fail
          go_quiet ((first | (go_at_call 13; refine (ahead_named _ _ _ _ S1).mono ?_; rintro e w' ⟨rfl, rfl⟩; exact ⟨rfl, _, rfl⟩) | (go_at_call 13; refine (ahead_named _ _ _ _ Hs).mono ?_; rintro e w' ⟨rfl, rfl⟩; exact ⟨rfl, _, rfl⟩)))
          have hr6 : Rd (w7.drewN nq) A6 _ bs := ⟨hr6.len, hr6.byte, hr6.at_⟩
          have hr7 : Rd (w7.drewN nq) A7 m2 bs2 := ⟨hr7.len, hr7.byte, hr7.at_⟩
          have hd7 : Rd (w7.drewN nq) A k l1 := ⟨hd7.len, hd7.byte, hd7.at_⟩
          have hB7 : Below w.heap.size w (w7.drewN nq) := below_drewN hbox7.below nq
          go_wp2_with fail
          refine (cut_named a f (0 : Int) A k c l1 x3 bs3 m3 (w7.drewN nq) HK3.out (by omega) (by omega) hd7 X3 B3 M3).mono ?_
          rintro e w8 ⟨A8, c8, rfl, hc8, hr8, hb8⟩
          have hr6 := hr6.below hb8
          have hr7 := hr7.below hb8
          have hB8 := below_trans hB7 hb8
          clear hb8 hbox7 hd7 c0 c1 c2 c3 hB7
          go_wp2_with (first | (go_at_call 10; refine (awake_any _).mono ?_; rintro e w9 ⟨rfl, hb9⟩; have hr6 := hr6.below hb9; have hr7 := hr7.below hb9; have hr8 := hr8.below hb9; have hB9 := below_trans hB8 hb9; clear hb9) | (refine wpList_appG rfl (.tmp 156) (.tmp 157) rfl w9.heap.size (some ⟨w9.heap.size, 0, none⟩) A7 0 0 m2 c7 [] bs2 rfl rfl (made0 w9) (hr7.below ((Below.refl _ _).alloc (Nat.le_refl _) _)) (by omega) (by simp) ?_; intro A11 c11 w11 hown11 _ hb11 _; have hown11 : OwnB w11 w9.heap.size A11 m2 c11 bs2 := by simpa using hown11) | (refine wpList_appG rfl (.tmp 158) (.tmp 159) rfl w9.heap.size A11 A8 m2 c11 m3 c8 bs2 bs3 rfl rfl hown11 (hr8.below (((Below.refl _ _).alloc (Nat.le_refl _) _).trans hb11)) (by omega) (Nat.le_trans (by simp) hb11.size) ?_; intro A12 c12 w12 hown12 _ hb12 _; have hb92 : Below w9.heap.size w9 w12 := (((Below.refl _ _).alloc (Nat.le_refl _) _).trans hb11).trans hb12; have hr6 := hr6.below hb92; have hr12 := hown12.rd (by rw [EE.out]; exact hr6.byte); have hB12 := below_trans hB9 hb92) | (go_at_call 20; refine (equal_lists _ _ _ _ _ _ _ _ _ hr12 hr6 EE).mono ?_; rintro e w' ⟨rfl, rfl⟩))
          go_ret
          exact ⟨rfl, hB12⟩
        · have hn1 : ((n : Int) == 0) = false := by simp; omega
          clear hn0
          have E : cutBytes a f (0 : Int) l1 ++ cutBytes a f (0 : Int) l1 = cutBytes a f (0 : Int) l1 := by
            have E0 := parts a f (0 : Int) (0 : Int) l1 (by rw [hr0.len]; omega) hk0 hk2 hL1
            rw [show (f + (0 : Int)) % 4294967296 = f by omega, show (0 : Int) - (0 : Int) = (0 : Int) by omega] at E0
            exact E0
          have S1 : Hid (sAhead f a = s) := by
            show _ = _
            rw [show f = (f + (0 : Int)) % 4294967296 by omega, shift a f (0 : Int) hk0 (by omega), Hs.out]
            try (unfold wrap32; omega)
          obtain ⟨x2, ex2⟩ : ∃ x2, cutFrom a f (0 : Int) l1 = x2 := ⟨_, rfl⟩
          obtain ⟨bs2, eb2⟩ : ∃ bs2, cutBytes a f (0 : Int) l1 = bs2 := ⟨_, rfl⟩
          obtain ⟨m2, em2⟩ : ∃ m2, bs2.length = m2 := ⟨_, rfl⟩
          obtain ⟨x3, ex3⟩ : ∃ x3, cutFrom a f (0 : Int) l1 = x3 := ⟨_, rfl⟩
          obtain ⟨bs3, eb3⟩ : ∃ bs3, cutBytes a f (0 : Int) l1 = bs3 := ⟨_, rfl⟩
          obtain ⟨m3, em3⟩ : ∃ m3, bs3.length = m3 := ⟨_, rfl⟩
          have hm2 : m2 ≤ 500 := by rw [← em2, ← eb2]; unfold cutBytes; rw [List.length_take, List.length_drop, hr0.len]; omega
          have hm3 : m3 ≤ 500 := by rw [← em3, ← eb3]; unfold cutBytes; rw [List.length_take, List.length_drop, hr0.len]; omega
          have EE : Hid (bs2 ++ bs3 = bs) := by show _ = _; rw [← eb2, ← eb3, ← B1.out]; exact E
          have X2 := Lib.hid ex2
          have B2 := Lib.hid eb2
          have M2 := Lib.hid em2
          have X3 := Lib.hid ex3
          have B3 := Lib.hid eb3
          have M3 := Lib.hid em3
          clear E ex2 eb2 em2 ex3 eb3 em3
          have HK : Hid (U32 (0 : Int)) := by show U32 _; unfold U32; omega
          have HK3 : Hid (U32 (0 : Int)) := by show U32 _; unfold U32; omega
          go_wp2_with fail
          refine (cut_named a f (0 : Int) A k c l1 x2 bs2 m2 w6 HK.out (by omega) (by omega) hd6 X2 B2 M2).mono ?_
          rintro e w7 ⟨A7, c7, rfl, hc7, hr7, hb7⟩
          have hbox7 := hbox6.on hb7
          have hd7 := hd6.below hb7
          have hr6 := hr6.below hb7
          clear hb7 hbox6 hd6 c0 c1 c2 c3
          obtain ⟨c0, c1, c2, c3, _, _⟩ := id hbox7
          go_wp2_with fail
          go_quiet ((first | (go_at_call 13; refine (ahead_named _ _ _ _ S1).mono ?_; rintro e w' ⟨rfl, rfl⟩; exact ⟨rfl, _, rfl⟩) | (go_at_call 13; refine (ahead_named _ _ _ _ Hs).mono ?_; rintro e w' ⟨rfl, rfl⟩; exact ⟨rfl, _, rfl⟩)))
          have hr6 : Rd (w7.drewN nq) A6 _ bs := ⟨hr6.len, hr6.byte, hr6.at_⟩
          have hr7 : Rd (w7.drewN nq) A7 m2 bs2 := ⟨hr7.len, hr7.byte, hr7.at_⟩
          have hd7 : Rd (w7.drewN nq) A k l1 := ⟨hd7.len, hd7.byte, hd7.at_⟩
          have hB7 : Below w.heap.size w (w7.drewN nq) := below_drewN hbox7.below nq
          go_wp2_with fail
          refine (cut_named a f (0 : Int) A k c l1 x3 bs3 m3 (w7.drewN nq) HK3.out (by omega) (by omega) hd7 X3 B3 M3).mono ?_
          rintro e w8 ⟨A8, c8, rfl, hc8, hr8, hb8⟩
          have hr6 := hr6.below hb8
          have hr7 := hr7.below hb8
          have hB8 := below_trans hB7 hb8
          clear hb8 hbox7 hd7 c0 c1 c2 c3 hB7
          go_wp2_with (first | (go_at_call 10; refine (awake_any _).mono ?_; rintro e w9 ⟨rfl, hb9⟩; have hr6 := hr6.below hb9; have hr7 := hr7.below hb9; have hr8 := hr8.below hb9; have hB9 := below_trans hB8 hb9; clear hb9) | (refine wpList_appG rfl (.tmp 156) (.tmp 157) rfl w9.heap.size (some ⟨w9.heap.size, 0, none⟩) A7 0 0 m2 c7 [] bs2 rfl rfl (made0 w9) (hr7.below ((Below.refl _ _).alloc (Nat.le_refl _) _)) (by omega) (by simp) ?_; intro A11 c11 w11 hown11 _ hb11 _; have hown11 : OwnB w11 w9.heap.size A11 m2 c11 bs2 := by simpa using hown11) | (refine wpList_appG rfl (.tmp 158) (.tmp 159) rfl w9.heap.size A11 A8 m2 c11 m3 c8 bs2 bs3 rfl rfl hown11 (hr8.below (((Below.refl _ _).alloc (Nat.le_refl _) _).trans hb11)) (by omega) (Nat.le_trans (by simp) hb11.size) ?_; intro A12 c12 w12 hown12 _ hb12 _; have hb92 : Below w9.heap.size w9 w12 := (((Below.refl _ _).alloc (Nat.le_refl _) _).trans hb11).trans hb12; have hr6 := hr6.below hb92; have hr12 := hown12.rd (by rw [EE.out]; exact hr6.byte); have hB12 := below_trans hB9 hb92) | (go_at_call 20; refine (equal_lists _ _ _ _ _ _ _ _ _ hr12 hr6 EE).mono ?_; rintro e w' ⟨rfl, rfl⟩))
          go_ret
          exact ⟨rfl, hB12⟩

theorem own : ownKnob Try.prog.godebug = none := by kernel_rfl
theorem laidOut : laidOutB Try.prog = true := by kernel_rfl

set_option maxRecDepth 100000 in
theorem lifted (os : Os) (started : os.Started) (H : Type) (enc : TypeId × Value → H) :
    ReturnsInHanded {} Try.checked os 7 .any (Rows.seqCutsSpec.pre6 enc Try.prog Try.f7 Rows.seqCutsRow.domain false) (Rows.seqCutsSpec.post enc Try.prog Try.f7 false true false false) := by
  refine returnsInHanded_of_change (C := Try.checked) own started (by kernel_rfl) Try.func7
    (ChangeSpec.witness6 (enc := enc) (C := Try.checked) false ⟨#[], #[(.agg #[.int .u32 0, .int .u32 0, .int .u32 0, .slice none 0 0]), .int .u32 0], []⟩ 8 (by kernel_rfl) (by kernel_rfl) (by kernel_rfl) (by kernel_rfl)) ?_
  intro W base args ds gs before hval0 hW hcnd _
  have hval : ∀ (j : Nat) t v, Try.f7.params[j]? = some t → args[j]? = some v → Value.okWide Try.prog W .any base t v := hval0
  have hW' := hW
  obtain ⟨p, q, hA0, hV, rfl, hfz, hnd⟩ := hW
  have hA : DataW.TrodAll enc Try.prog W 0 (fun _ => true) true Try.f7.params.toList args.toList ds p := hA0
  rw [Try.params7] at hA hval
  obtain ⟨v0, vs0, d0, ds0, p0, q0, hargs, rfl, rfl, h0, r0⟩ := trodAll_cons hA
  obtain ⟨v1, vs1, d1, ds1, p1, q1, rfl, rfl, rfl, h1, r1⟩ := trodAll_cons r0
  obtain ⟨rfl, rfl, rfl⟩ := trodAll_nil r1
  obtain rfl : args = #[v0, v1] := by cases args; simp_all
  obtain ⟨rfl, rfl⟩ := trodVars_none hV
  have k0 := piece_open (hval 0 32 v0 rfl rfl) h0
  have lt0 : ∀ x ∈ p0, x.block < W.heap.size := by obtain ⟨m, hm⟩ := h0; exact DataW.trod_lt m _ _ _ hm
  obtain ⟨a1, rfl, rfl, rfl, w1⟩ := open_int Try.underlying22 (hval 1 22 v1 rfl rfl) h1
  clear hA0 hval0
  refine (walk W v0 k0 a1 w1).mono fun e W' ⟨he, bel⟩ => ?_
  subst he
  exact ⟨_, rfl, _, _, _, [], _, [], hW', trodAll_mk1 (shut_bool Try.underlying4 _), (trodAll_cons_mk (Below.trod laidOut (by kernel_rfl) (of_decide_eq_true (by kernel_rfl)) h0 bel lt0) (trodAll_cons_mk (shut_int Try.underlying22 w1) trodAll_mk0)), rfl, bel.frame _, fun h => by cases h⟩

theorem over : Rows.seqCutsRow.holds Try.pinned (OpenSpec.ofChange Rows.seqCutsSpec) :=
  OpenClaim.holds_of_wide 7 Try.f7 rfl rfl rfl rfl rfl rfl rfl ⟨rfl, rfl, rfl, rfl, rfl⟩ rfl rfl rfl rfl rfl (by kernel_rfl) Try.func7 (by kernel_rfl)
    (of_decide_eq_true (by kernel_rfl)) (by unfold Func.isWrapper; first | (rw [if_pos (by decide +kernel)]; kernel_rfl) | (rw [if_neg (by decide +kernel)]; exact ⟨rfl, rfl⟩))
    (fun os started H enc _ => lifted os started H enc)

/-- The statement. -/
theorem proved : Rows.SeqCutsSaid := over
#print axioms proved
end Go.Proofs.Ytonbgkdobfefmaa.seqCuts
