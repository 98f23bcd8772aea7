/-
  Ipv4Fields holds: each field of a head stands at its place among a packet's bytes: with one changed, just its bytes and the header's field are others. No condition.
-/
import Derived.Test.YtechknoagcjoeaaIpSame
import Derived.Test.YtechknoagcjoeaaHead
import Derived.Deep.RegionHeld3
namespace Go.Proofs.Ytechknoagcjoeaa.ipv4Fields
open Go.ChangeShapes Go.WideShapes Go.ChangeAt Go.RowKit
set_option linter.unusedVariables false

theorem same_at (p q g g' c c' m a t : Nat) (ai ti : Int) (L L' : List Int) (x : Bool) (w : World) (ha : ai = (a : Int)) (ht : ti = (t : Int)) (hat : a < t) (htm : t ≤ m) (hc : m ≤ c) (hc' : m ≤ c')
    (hp : Box w p 24 (.slice (some ⟨g, 0, none⟩) m c)) (hq : Box w q 24 (.slice (some ⟨g', 0, none⟩) m c'))
    (h : Rd w (some ⟨g, 0, none⟩) m L) (h' : Rd w (some ⟨g', 0, none⟩) m L') (hx : decide ((L.take t).drop a = (L'.take t).drop a) = x) :
    Calls Try.prog 8 #[.int .i64 ai, .int .i64 ti, .pointer (some ⟨p, 0, none⟩), .pointer (some ⟨q, 0, none⟩)] w (SameIs x w) := by
  subst ha ht; exact same_told p q g g' c c' m a t L L' x w hat htm hc hc' hp hq h h' hx
theorem same_rest (p q g g' c c' m : Nat) (L L' : List Int) (w : World) (hm : 20 ≤ m) (hc : m ≤ c) (hc' : m ≤ c') (hcm : c ≤ maxLen) (hcm' : c' ≤ maxLen)
    (hx : decide ((L.take m).drop 20 = (L'.take m).drop 20) = true)
    (hp : Box w p 24 (.slice (some ⟨g, 0, none⟩) m c)) (hq : Box w q 24 (.slice (some ⟨g', 0, none⟩) m c'))
    (h : Rd w (some ⟨g, 0, none⟩) m L) (h' : Rd w (some ⟨g', 0, none⟩) m L') :
    Calls Try.prog 8 #[.int .i64 20, .int .i64 (m : Int), .pointer (some ⟨p, 0, none⟩), .pointer (some ⟨q, 0, none⟩)] w (SameIs true w) := by
  rcases Nat.lt_or_ge 20 m with h20 | h20
  · exact same_told p q g g' c c' m 20 m L L' true w h20 (Nat.le_refl _) hc hc' hp hq h h' hx
  · obtain rfl : m = 20 := by omega
    exact same_empty p q g g' c c' 20 w hc hc' hcm hcm' hp hq

/-- Some row, or none, and some error. -/
def PutSome (w : World) (e : Ending) (w' : World) : Prop := ∃ A m c x, e = .returned (.tuple #[.slice A m c, .int .i64 x]) ∧ Below w.heap.size w w'

theorem mayB_le {ttl : Int} {n : Nat} (h : mayB ttl n = true) : n ≤ 40 ∧ 0 < ttl ∧ n % 4 = 0 := by
  unfold mayB at h; simp at h; omega

theorem put_some (tos id_ ttl proto src dst : Int) (df : Bool) (A A' : Option Addr) (n c n' c' : Nat) (opts payload : List Int) (w : World)
    (h0 : 0 ≤ tos ∧ tos < 256) (h1 : 0 ≤ id_ ∧ id_ < 65536) (h2 : 0 ≤ ttl ∧ ttl < 256) (h3 : 0 ≤ proto ∧ proto < 256) (h4 : 0 ≤ src ∧ src < 4294967296) (h5 : 0 ≤ dst ∧ dst < 4294967296)
    (hc : n ≤ c ∧ c ≤ maxLen) (hc' : n' ≤ c' ∧ c' ≤ maxLen) (hn' : n' ≤ 140737488355328) (h : Rd w A n opts) (h' : Rd w A' n' payload) :
    Calls Try.prog 5 #[(.agg #[.int .u8 tos, .int .u16 id_, .bool df, .int .u8 ttl, .int .u8 proto, .int .u32 src, .int .u32 dst, .slice A n c]), .slice A' n' c'] w (PutSome w) := by
  by_cases hm : mayB ttl n = true
  · obtain ⟨hn, _, _⟩ := mayB_le hm
    by_cases hl : 1500 < 20 + n + n'
    · exact (put_long tos id_ ttl proto src dst df A A' n c n' c' w hm hn hn' hl).mono fun e w' ⟨he, hb⟩ => ⟨_, _, _, _, he, hb⟩
    · exact (put_ok tos id_ ttl proto src dst df A A' n c n' c' opts payload w h0 h1 h2 h3 h4 h5 hm hn hc hc' (by omega) h h').mono fun e w' ⟨A2, c2, he, _, _, _, hb⟩ => ⟨_, _, _, _, he, hb⟩
  · exact (put_arg tos id_ ttl proto src dst df A A' n c n' c' w (by simpa using hm)).mono fun e w' ⟨he, hb⟩ => ⟨_, _, _, _, he, hb⟩

/-- What the last test holds on to. -/
structure Held (tos id_ ttl proto src dst tos' id' ttl' proto' src' dst' : Int) (df df' : Bool) (A : Option Addr) (n c hb kb pb qb g g' m c1 c2 : Nat) (L L' : List Int) (w0 w : World) : Prop where
  hh : w.heap[hb]? = some (.cells #[.int .u8 tos, .int .u16 id_, .bool df, .int .u8 ttl, .int .u8 proto, .int .u32 src, .int .u32 dst, .slice A n c] 26 (0, 0))
  hk : w.heap[kb]? = some (.cells #[.int .u8 tos', .int .u16 id', .bool df', .int .u8 ttl', .int .u8 proto', .int .u32 src', .int .u32 dst', .slice A n c] 26 (0, 0))
  bp : Box w pb 24 (.slice (some ⟨g, 0, none⟩) m c1)
  bq : Box w qb 24 (.slice (some ⟨g', 0, none⟩) m c2)
  r1 : Rd w (some ⟨g, 0, none⟩) m L
  r2 : Rd w (some ⟨g', 0, none⟩) m L'
  old : Below w0.heap.size w0 w
section
variable {tos id_ ttl proto src dst tos' id' ttl' proto' src' dst' : Int} {df df' : Bool} {A : Option Addr} {n c hb kb pb qb g g' m c1 c2 : Nat} {L L' : List Int} {w0 w w' : World}
theorem Held.drewN_ (h : Held tos id_ ttl proto src dst tos' id' ttl' proto' src' dst' df df' A n c hb kb pb qb g g' m c1 c2 L L' w0 w) {k : Nat} (e : w' = w.drewN k) : Held tos id_ ttl proto src dst tos' id' ttl' proto' src' dst' df df' A n c hb kb pb qb g g' m c1 c2 L L' w0 w' := by
  subst e
  exact ⟨h.hh, h.hk, h.bp, h.bq, h.r1.drewN k, h.r2.drewN k, ⟨h.old.os, h.old.tape, h.old.output, h.old.size, h.old.block⟩⟩
theorem Held.drew (h : Held tos id_ ttl proto src dst tos' id' ttl' proto' src' dst' df df' A n c hb kb pb qb g g' m c1 c2 L L' w0 w) : Held tos id_ ttl proto src dst tos' id' ttl' proto' src' dst' df df' A n c hb kb pb qb g g' m c1 c2 L L' w0 w.drew := h.drewN_ (k := 1) rfl
theorem Held.on (h : Held tos id_ ttl proto src dst tos' id' ttl' proto' src' dst' df df' A n c hb kb pb qb g g' m c1 c2 L L' w0 w) (hbl : Below w.heap.size w w') : Held tos id_ ttl proto src dst tos' id' ttl' proto' src' dst' df df' A n c hb kb pb qb g g' m c1 c2 L L' w0 w' :=
  ⟨blk_on h.hh hbl, blk_on h.hk hbl, blk_on h.bp hbl, blk_on h.bq hbl, h.r1.below hbl, h.r2.below hbl, below_trans h.old hbl⟩
theorem Held.cells (h : Held tos id_ ttl proto src dst tos' id' ttl' proto' src' dst' df df' A n c hb kb pb qb g g' m c1 c2 L L' w0 w) : w.cell? ⟨hb, 0, none⟩ = some (.int .u8 tos) ∧ w.cell? ⟨hb, 1, none⟩ = some (.int .u16 id_) ∧ w.cell? ⟨hb, 2, none⟩ = some (.bool df) ∧ w.cell? ⟨hb, 3, none⟩ = some (.int .u8 ttl) ∧ w.cell? ⟨hb, 4, none⟩ = some (.int .u8 proto) ∧ w.cell? ⟨hb, 5, none⟩ = some (.int .u32 src) ∧ w.cell? ⟨hb, 6, none⟩ = some (.int .u32 dst) ∧ w.cell? ⟨kb, 0, none⟩ = some (.int .u8 tos') ∧ w.cell? ⟨kb, 1, none⟩ = some (.int .u16 id') ∧ w.cell? ⟨kb, 2, none⟩ = some (.bool df') ∧ w.cell? ⟨kb, 3, none⟩ = some (.int .u8 ttl') ∧ w.cell? ⟨kb, 4, none⟩ = some (.int .u8 proto') ∧ w.cell? ⟨kb, 5, none⟩ = some (.int .u32 src') ∧ w.cell? ⟨kb, 6, none⟩ = some (.int .u32 dst') ∧ w.cell? ⟨pb, 0, none⟩ = some (.slice (some ⟨g, 0, none⟩) m c1) := by
  have a := blk_cell h.hh
  have b := blk_cell h.hk
  have p := h.bp.cell
  simp [a, b, p]
end

set_option maxHeartbeats 8000000 in
set_option maxRecDepth 100000 in
theorem walk (w : World) (v0 : Value) (k0 : HeadAt w v0) (v1 : Value) (k1 : HeadAt w v1) (v2 : Value) (k2 : BytesAt w v2) :
    Calls Try.prog 3 #[v0, v1, v2] w fun e w' => e = .returned (.bool true) ∧ Below w.heap.size w w' := by
  have hmf : ∀ (fn : Fn) (first cap : Array Value) (w : World), (Instr.makeFunc fn first cap).run Try.prog w = .ok (.func fn first cap) w := fun _ _ _ _ => rfl
  obtain ⟨tos, id_, df, ttl, proto, src, dst, A, n, c, opts, rfl, h0, h1, h2, h3, h4, h5, hc, hr⟩ := k0
  obtain ⟨tos', id', df', ttl', proto', src', dst', A', n', c', opts', rfl, h0', h1', h2', h3', h4', h5', -, -⟩ := k1
  obtain ⟨A2, n2, c2, payload, rfl, hc2, hcm2, hp⟩ := k2
  have hn2 : n2 ≤ 140737488355328 := by omega
  have hc2' : n2 ≤ c2 ∧ c2 ≤ maxLen := ⟨hc2, by unfold maxLen; omega⟩
  by_cases hm : mayB ttl n = true
  · obtain ⟨hn, ht0, hn4⟩ := mayB_le hm
    by_cases hl : 1500 < 20 + n + n2
    · have hli : ¬ (n2 : Int) + (n : Int) + 20 ≤ 1500 := by omega
      have hlj : 1500 < (n2 : Int) + (n : Int) + 20 := by omega
      have hld : decide ((n2 : Int) + (n : Int) + 20 ≤ 1500) = false := by simp; omega
      have HB := Lib.hid (((Below.refl w.heap.size w).alloc (Nat.le_refl _) (.cells #[.int .u8 tos, .int .u16 id_, .bool df, .int .u8 ttl, .int .u8 proto, .int .u32 src, .int .u32 dst, .slice A n c] 26)).alloc (by simp) (.cells #[.int .u8 tos', .int .u16 id', .bool df', .int .u8 ttl', .int .u8 proto', .int .u32 src', .int .u32 dst', .slice A n c] 26))
      have HH1 := Lib.hid (show ((w.alloc (.cells #[.int .u8 tos, .int .u16 id_, .bool df, .int .u8 ttl, .int .u8 proto, .int .u32 src, .int .u32 dst, .slice A n c] 26)).alloc (.cells #[.int .u8 tos', .int .u16 id', .bool df', .int .u8 ttl', .int .u8 proto', .int .u32 src', .int .u32 dst', .slice A n c] 26)).heap[w.heap.size]? = some (.cells #[.int .u8 tos, .int .u16 id_, .bool df, .int .u8 ttl, .int .u8 proto, .int .u32 src, .int .u32 dst, .slice A n c] 26 (0, 0)) by rw [Below.heap_alloc _ _ _ (by simp)]; exact heap_alloc_new w _)
      have HK1 := Lib.hid (show ((w.alloc (.cells #[.int .u8 tos, .int .u16 id_, .bool df, .int .u8 ttl, .int .u8 proto, .int .u32 src, .int .u32 dst, .slice A n c] 26)).alloc (.cells #[.int .u8 tos', .int .u16 id', .bool df', .int .u8 ttl', .int .u8 proto', .int .u32 src', .int .u32 dst', .slice A n c] 26)).heap[w.heap.size + 1]? = some (.cells #[.int .u8 tos', .int .u16 id', .bool df', .int .u8 ttl', .int .u8 proto', .int .u32 src', .int .u32 dst', .slice A n c] 26 (0, 0)) by have := heap_alloc_new (w.alloc (.cells #[.int .u8 tos, .int .u16 id_, .bool df, .int .u8 ttl, .int .u8 proto, .int .u32 src, .int .u32 dst, .slice A n c] 26)) (.cells #[.int .u8 tos', .int .u16 id', .bool df', .int .u8 ttl', .int .u8 proto', .int .u32 src', .int .u32 dst', .slice A n c] 26); simpa using this)
      have Hmf := Lib.hid hmf
      clear hmf
      go_enter Try.func3, Try.ntmps3
      go_wp2_with fail
      obtain ⟨w1, hw1⟩ : ∃ w1, w1 = ((w.alloc (.cells #[.int .u8 tos, .int .u16 id_, .bool df, .int .u8 ttl, .int .u8 proto, .int .u32 src, .int .u32 dst, .slice A n c] 26)).alloc (.cells #[.int .u8 tos', .int .u16 id', .bool df', .int .u8 ttl', .int .u8 proto', .int .u32 src', .int .u32 dst', .slice A n c] 26)) := ⟨_, rfl⟩
      rw [← hw1] at HB HH1 HK1 ⊢
      have hsz1 : w1.heap.size = w.heap.size + 1 + 1 := by rw [hw1]; simp
      clear hw1
      have Hr := Lib.hid (hr.below HB.out)
      have Hp := Lib.hid (hp.below HB.out)
      refine (put_long tos id_ ttl proto src dst df A A2 n c n2 c2 _ hm hn hn2 hl).mono ?_
      rintro e w2 ⟨rfl, hb⟩
      have hbb := below_trans hb (Below.alloc (Below.refl w2.heap.size w2) (Nat.le_refl _) (.cells #[.slice none 0 0] 24))
      have HB := Lib.hid (below_trans HB.out hbb)
      have HH1 := Lib.hid (blk_on HH1.out hbb)
      have HK1 := Lib.hid (blk_on HK1.out hbb)
      have Hr := Lib.hid (Hr.out.below hbb)
      have Hp := Lib.hid (Hp.out.below hbb)
      have r0 := blk_cell (HK1.out) 0
      have r1 := blk_cell (HK1.out) 1
      have r2 := blk_cell (HK1.out) 2
      have r3 := blk_cell (HK1.out) 3
      have r4 := blk_cell (HK1.out) 4
      have r5 := blk_cell (HK1.out) 5
      have r6 := blk_cell (HK1.out) 6
      have r7 := blk_cell (HK1.out) 7
      simp at r0 r1 r2 r3 r4 r5 r6 r7
      clear hb hbb
      go_wp2_with fail
      clear r0 r1 r2 r3 r4 r5 r6 r7
      (with_reducible refine (put_some tos' id' ttl' proto' src' dst' df' A A2 n c n2 c2 opts payload _ h0' h1' h2' h3' h4' h5' hc hc2' hn2 Hr.out Hp.out).mono ?_)
      rintro e w4 ⟨A4, m4, c4, x4, rfl, hb⟩
      have hbb := below_trans hb (Below.alloc (Below.refl w4.heap.size w4) (Nat.le_refl _) (.cells #[.slice A4 m4 c4] 24))
      have HB := Lib.hid (below_trans HB.out hbb)
      have HH1 := Lib.hid (blk_on HH1.out hbb)
      have HK1 := Lib.hid (blk_on HK1.out hbb)
      have Hr := Lib.hid (Hr.out.below hbb)
      have Hp := Lib.hid (Hp.out.below hbb)
      have r0 := blk_cell (HH1.out) 0
      have r1 := blk_cell (HH1.out) 1
      have r2 := blk_cell (HH1.out) 2
      have r3 := blk_cell (HH1.out) 3
      have r4 := blk_cell (HH1.out) 4
      have r5 := blk_cell (HH1.out) 5
      have r6 := blk_cell (HH1.out) 6
      have r7 := blk_cell (HH1.out) 7
      simp at r0 r1 r2 r3 r4 r5 r6 r7
      clear hb hbb
      go_wp2_with fail
      clear r0 r1 r2 r3 r4 r5 r6 r7
      refine (may_any tos id_ ttl proto src dst df A n c _).mono ?_
      rw [hm]
      rintro e w6 ⟨rfl, hb⟩
      have HB := Lib.hid (below_trans HB.out hb)
      have HH1 := Lib.hid (blk_on HH1.out hb)
      have HK1 := Lib.hid (blk_on HK1.out hb)
      have Hr := Lib.hid (Hr.out.below hb)
      have Hp := Lib.hid (Hp.out.below hb)
      have r7 := blk_cell HH1.out 7
      simp at r7
      clear hb
      go_wp2_with fail
      refine (ip_wakes _).mono ?_
      rintro e w8 ⟨rfl, hb⟩
      have HB := Lib.hid (below_trans HB.out hb)
      clear hb
      go_wp2_with fail
      go_ret
      exact ⟨rfl, HB.out⟩
    · have hli : (n2 : Int) + (n : Int) + 20 ≤ 1500 := by omega
      have hld : decide ((n2 : Int) + (n : Int) + 20 ≤ 1500) = true := by simp; omega
      obtain ⟨m, em⟩ : ∃ m, m = 20 + n + n2 := ⟨_, rfl⟩
      have hm20 : 20 ≤ m := by omega
      have hmm : m ≤ 1500 := by omega
      have hmi : ¬ (m : Int) < 20 := by omega
      have hmj : (20 : Int) ≤ (m : Int) := by omega
      have hmd : decide ((m : Int) < 20) = false := by simp; omega
      have Em := Lib.hid em
      clear em
      have hlen := hr.len
      have hlenp := hp.len
      have Hlen := Lib.hid hlen
      have Hlenp := Lib.hid hlenp
      clear hlen hlenp
      by_cases hm' : mayB ttl' n = true
      · have hm'' := hm'
        have HB := Lib.hid (((Below.refl w.heap.size w).alloc (Nat.le_refl _) (.cells #[.int .u8 tos, .int .u16 id_, .bool df, .int .u8 ttl, .int .u8 proto, .int .u32 src, .int .u32 dst, .slice A n c] 26)).alloc (by simp) (.cells #[.int .u8 tos', .int .u16 id', .bool df', .int .u8 ttl', .int .u8 proto', .int .u32 src', .int .u32 dst', .slice A n c] 26))
        have HH1 := Lib.hid (show ((w.alloc (.cells #[.int .u8 tos, .int .u16 id_, .bool df, .int .u8 ttl, .int .u8 proto, .int .u32 src, .int .u32 dst, .slice A n c] 26)).alloc (.cells #[.int .u8 tos', .int .u16 id', .bool df', .int .u8 ttl', .int .u8 proto', .int .u32 src', .int .u32 dst', .slice A n c] 26)).heap[w.heap.size]? = some (.cells #[.int .u8 tos, .int .u16 id_, .bool df, .int .u8 ttl, .int .u8 proto, .int .u32 src, .int .u32 dst, .slice A n c] 26 (0, 0)) by rw [Below.heap_alloc _ _ _ (by simp)]; exact heap_alloc_new w _)
        have HK1 := Lib.hid (show ((w.alloc (.cells #[.int .u8 tos, .int .u16 id_, .bool df, .int .u8 ttl, .int .u8 proto, .int .u32 src, .int .u32 dst, .slice A n c] 26)).alloc (.cells #[.int .u8 tos', .int .u16 id', .bool df', .int .u8 ttl', .int .u8 proto', .int .u32 src', .int .u32 dst', .slice A n c] 26)).heap[w.heap.size + 1]? = some (.cells #[.int .u8 tos', .int .u16 id', .bool df', .int .u8 ttl', .int .u8 proto', .int .u32 src', .int .u32 dst', .slice A n c] 26 (0, 0)) by have := heap_alloc_new (w.alloc (.cells #[.int .u8 tos, .int .u16 id_, .bool df, .int .u8 ttl, .int .u8 proto, .int .u32 src, .int .u32 dst, .slice A n c] 26)) (.cells #[.int .u8 tos', .int .u16 id', .bool df', .int .u8 ttl', .int .u8 proto', .int .u32 src', .int .u32 dst', .slice A n c] 26); simpa using this)
        have Hmf := Lib.hid hmf
        clear hmf
        go_enter Try.func3, Try.ntmps3
        go_wp2_with fail
        obtain ⟨w1, hw1⟩ : ∃ w1, w1 = ((w.alloc (.cells #[.int .u8 tos, .int .u16 id_, .bool df, .int .u8 ttl, .int .u8 proto, .int .u32 src, .int .u32 dst, .slice A n c] 26)).alloc (.cells #[.int .u8 tos', .int .u16 id', .bool df', .int .u8 ttl', .int .u8 proto', .int .u32 src', .int .u32 dst', .slice A n c] 26)) := ⟨_, rfl⟩
        rw [← hw1] at HB HH1 HK1 ⊢
        have hsz1 : w1.heap.size = w.heap.size + 1 + 1 := by rw [hw1]; simp
        clear hw1
        have Hr := Lib.hid (hr.below HB.out)
        have Hp := Lib.hid (hp.below HB.out)
        refine (put_ok tos id_ ttl proto src dst df A A2 n c n2 c2 opts payload _ h0 h1 h2 h3 h4 h5 hm hn hc hc2' (by omega) Hr.out Hp.out).mono ?_
        rw [← Em.out]
        rintro e w2 ⟨A3, c3, rfl, hk3, hm3, ho3, hb⟩
        have hbb := below_trans hb (Below.alloc (Below.refl w2.heap.size w2) (Nat.le_refl _) (.cells #[.slice A3 m c3] 24))
        have HB := Lib.hid (below_trans HB.out hbb)
        have HH1 := Lib.hid (blk_on HH1.out hbb)
        have HK1 := Lib.hid (blk_on HK1.out hbb)
        have Hr := Lib.hid (Hr.out.below hbb)
        have Hp := Lib.hid (Hp.out.below hbb)
        have r0 := blk_cell (HK1.out) 0
        have r1 := blk_cell (HK1.out) 1
        have r2 := blk_cell (HK1.out) 2
        have r3 := blk_cell (HK1.out) 3
        have r4 := blk_cell (HK1.out) 4
        have r5 := blk_cell (HK1.out) 5
        have r6 := blk_cell (HK1.out) 6
        have r7 := blk_cell (HK1.out) 7
        simp at r0 r1 r2 r3 r4 r5 r6 r7
        have Ho3 := Lib.hid (ho3.alloc (.cells #[.slice A3 m c3] 24))
        have HB3 := Lib.hid (heap_alloc_new w2 (.cells #[.slice A3 m c3] 24))
        have hg3 := ho3.addr (by omega)
        clear hb hbb ho3
        go_wp2_with fail
        clear r0 r1 r2 r3 r4 r5 r6 r7
        obtain ⟨g, rfl, hgB, hgl⟩ := hg3
        clear hgB hgl
        refine (put_ok tos' id' ttl' proto' src' dst' df' A A2 n c n2 c2 opts payload _ h0' h1' h2' h3' h4' h5' hm' hn hc hc2' (by omega) Hr.out Hp.out).mono ?_
        rw [← Em.out]
        rintro e w4 ⟨A4, c4, rfl, hk4, hm4, ho4, hb⟩
        obtain ⟨g', rfl, hgB, hgl⟩ := ho4.addr (by omega)
        have hbb := below_trans hb (Below.alloc (Below.refl w4.heap.size w4) (Nat.le_refl _) (.cells #[.slice (some ⟨g', 0, none⟩) m c4] 24))
        have HB := Lib.hid (below_trans HB.out hbb)
        have HH1 := Lib.hid (blk_on HH1.out hbb)
        have HK1 := Lib.hid (blk_on HK1.out hbb)
        have Hr := Lib.hid (Hr.out.below hbb)
        have Hp := Lib.hid (Hp.out.below hbb)
        have hlo := Hlen.out
        have hlp := Hlenp.out
        have Ho3 := Lib.hid ((Ho3.out.on hbb).rdB (packetL_bytes h0 h1 h2 h3 h4 h5 (by omega) (by omega) hr.byte hp.byte))
        have Ho4 := Lib.hid ((ho4.alloc (.cells #[.slice (some ⟨g', 0, none⟩) m c4] 24)).rdB (packetL_bytes h0' h1' h2' h3' h4' h5' (by omega) (by omega) hr.byte hp.byte))
        have HP := Lib.hid (parts_of tos tos' id_ id' df df' ttl ttl' proto proto' src src' dst dst' opts payload m (by rw [hlo, hlp]; exact Em.out))
        obtain ⟨L, eL⟩ : ∃ L, packetL tos id_ df ttl proto src dst opts payload = L := ⟨_, rfl⟩
        obtain ⟨L', eL'⟩ : ∃ L', packetL tos' id' df' ttl' proto' src' dst' opts payload = L' := ⟨_, rfl⟩
        rw [eL, eL'] at HP
        rw [eL] at Ho3
        rw [eL'] at Ho4
        have hhd : Held tos id_ ttl proto src dst tos' id' ttl' proto' src' dst' df df' A n c w.heap.size (w.heap.size + 1) w2.heap.size w4.heap.size g g' m c3 c4 L L' w (w4.alloc (.cells #[.slice (some ⟨g', 0, none⟩) m c4] 24)) :=
          ⟨HH1.out, HK1.out, blk_on HB3.out hbb, heap_alloc_new w4 _, Ho3.out, Ho4.out, HB.out⟩
        have p0 := hhd.bp.cell
        have q0 := hhd.bq.cell
        have HH := Lib.hid hhd
        have H20 := Lib.hid (fun w => same_rest w2.heap.size w4.heap.size g g' c3 c4 m L L' w hm20 hk3 hk4 hm3 hm4 HP.out.s20)
        have hmf := Hmf.out
        clear hhd hbb hb ho4 hgB hgl hlo hlp eL eL' hr hp h0 h1 h2 h3 h4 h5 h0' h1' h2' h3' h4' h5' Hr Hp Hlen Hlenp
        go_wp2_with fail
        clear p0 q0 hmf
        dsimp only [List.append]
        refine wp_region_held_drew (S := fun w' => w'.cell? ⟨w.heap.size, 0, none⟩ = some (.int .u8 tos) ∧ w'.cell? ⟨w.heap.size, 1, none⟩ = some (.int .u16 id_) ∧ w'.cell? ⟨w.heap.size, 2, none⟩ = some (.bool df) ∧ w'.cell? ⟨w.heap.size, 3, none⟩ = some (.int .u8 ttl) ∧ w'.cell? ⟨w.heap.size, 4, none⟩ = some (.int .u8 proto) ∧ w'.cell? ⟨w.heap.size, 5, none⟩ = some (.int .u32 src) ∧ w'.cell? ⟨w.heap.size, 6, none⟩ = some (.int .u32 dst) ∧ w'.cell? ⟨(w.heap.size + 1), 0, none⟩ = some (.int .u8 tos') ∧ w'.cell? ⟨(w.heap.size + 1), 1, none⟩ = some (.int .u16 id') ∧ w'.cell? ⟨(w.heap.size + 1), 2, none⟩ = some (.bool df') ∧ w'.cell? ⟨(w.heap.size + 1), 3, none⟩ = some (.int .u8 ttl') ∧ w'.cell? ⟨(w.heap.size + 1), 4, none⟩ = some (.int .u8 proto') ∧ w'.cell? ⟨(w.heap.size + 1), 5, none⟩ = some (.int .u32 src') ∧ w'.cell? ⟨(w.heap.size + 1), 6, none⟩ = some (.int .u32 dst') ∧ w'.cell? ⟨w2.heap.size, 0, none⟩ = some (.slice (some ⟨g, 0, none⟩) m c3)) (by kernel_rfl) HH.out.cells (fun hHeld => ?_)
        have HH := Lib.hid HH.out.drew
        clear HB HH1 HK1 Hr Hp Ho3 Ho4 HB3 Hmf hm hm' hm'' hn ht0 hn4 hl hli hld hmi hmj hmd hc hc2 hcm2 hn2 hc2' hsz1
        refine wpAnyH_take (i := 0) (oi := { dst := some 64, op := Go.Op.move (Go.Operand.tmp 11), type := 32, pos := "outright.go:65", after := #[], guard := none }) (v := ?_) rfl (by kernel_rfl) (by kernel_rfl) (by kernel_rfl) (fun _ _ _ h => h) (Or.inl ⟨by rfl, ?_⟩) (by assumption) ?_
        rotate_left 1
        · intro w' hSw; (go_simp <;> (with_reducible rfl))
        (try simp only [Act.put, List.setIfInBounds_toArray, List.set_cons_zero, List.set_cons_succ])
        refine wpAnyH_ready (rs := [1]) (by kernel_rfl) (by simp) ?_
        refine AllReadyH.cons (o := { dst := some 65, op := Go.Op.call { callee := Go.Callee.value (Go.Operand.tmp 64), args := #[Go.Operand.const (Go.Value.int Go.IntKind.i64 0), Go.Operand.const (Go.Value.int Go.IntKind.i64 1)], argTypes := #[3, 3] }, type := 4, pos := "outright.go:65", after := #[{ on := 0, ground := Go.Ground.data }], guard := none }) rfl (fun K hK => ?_) AllReadyH.nil
        go_simp
        (go_at_call 8; (with_reducible refine (same_at _ _ g g' c3 c4 m 0 1 0 1 L L' true _ rfl rfl (by omega) (by omega) hk3 hk4 HH.out.bp HH.out.bq HH.out.r1 HH.out.r2 HP.out.s0).mono ?_); rintro e w7 ⟨rfl, k7, hk7⟩; have HH := Lib.hid (Held.drewN_ HH.out hk7); clear hk7)
        refine hK.out _ _ ?_ (fun hHeld => ?_)
        · exact HH.out.cells
        clear hK K
        (try simp only [Act.put, List.setIfInBounds_toArray, List.set_cons_zero, List.set_cons_succ])
        refine wpAnyH_take (i := 2) (oi := { dst := some 66, op := Go.Op.move (Go.Operand.tmp 65), type := 4, pos := "outright.go:65", after := #[{ on := 1, ground := Go.Ground.data }, { on := 1, ground := Go.Ground.chain }], guard := none }) (v := ?_) rfl (by kernel_rfl) (by kernel_rfl) (by kernel_rfl) (fun _ _ _ h => h) (Or.inl ⟨by rfl, ?_⟩) (by assumption) ?_
        rotate_left 1
        · intro w' hSw; (go_simp <;> (with_reducible rfl))
        (try simp only [Act.put, List.setIfInBounds_toArray, List.set_cons_zero, List.set_cons_succ])
        refine wpAnyH_take (i := 3) (oi := { dst := some 67, op := Go.Op.move (Go.Operand.tmp 11), type := 32, pos := "outright.go:65", after := #[{ on := 2, ground := Go.Ground.guard }], guard := some (2, true) }) (v := ?_) rfl (by kernel_rfl) (by kernel_rfl) (by kernel_rfl) (fun _ _ _ h => h) (Or.inl ⟨by rfl, ?_⟩) (by assumption) ?_
        rotate_left 1
        · intro w' hSw; (go_simp <;> (with_reducible rfl))
        (try simp only [Act.put, List.setIfInBounds_toArray, List.set_cons_zero, List.set_cons_succ])
        refine wpAnyH_take (i := 5) (oi := { dst := some 69, op := Go.Op.fieldAddr 26 (Go.Operand.tmp 3) 0, type := 0, pos := "outright.go:65", after := #[{ on := 2, ground := Go.Ground.guard }], guard := some (2, true) }) (v := ?_) rfl (by kernel_rfl) (by kernel_rfl) (by kernel_rfl) (fun _ _ _ h => h) (Or.inl ⟨by rfl, ?_⟩) (by assumption) ?_
        rotate_left 1
        · intro w' hSw; (go_simp <;> (with_reducible rfl))
        (try simp only [Act.put, List.setIfInBounds_toArray, List.set_cons_zero, List.set_cons_succ])
        refine wpAnyH_take (i := 6) (oi := { dst := some 70, op := Go.Op.load 5 (Go.Operand.tmp 69), type := 5, pos := "outright.go:65", after := #[{ on := 5, ground := Go.Ground.data }, { on := 2, ground := Go.Ground.guard }], guard := some (2, true) }) (v := ?_) rfl (by kernel_rfl) (by kernel_rfl) (by kernel_rfl) (fun _ _ _ h => h) (Or.inl ⟨by rfl, ?_⟩) (by assumption) ?_
        rotate_left 1
        · intro w' hSw; (go_simp <;> (with_reducible rfl))
        (try simp only [Act.put, List.setIfInBounds_toArray, List.set_cons_zero, List.set_cons_succ])
        refine wpAnyH_take (i := 7) (oi := { dst := some 71, op := Go.Op.fieldAddr 26 (Go.Operand.tmp 4) 0, type := 0, pos := "outright.go:65", after := #[{ on := 2, ground := Go.Ground.guard }], guard := some (2, true) }) (v := ?_) rfl (by kernel_rfl) (by kernel_rfl) (by kernel_rfl) (fun _ _ _ h => h) (Or.inl ⟨by rfl, ?_⟩) (by assumption) ?_
        rotate_left 1
        · intro w' hSw; (go_simp <;> (with_reducible rfl))
        (try simp only [Act.put, List.setIfInBounds_toArray, List.set_cons_zero, List.set_cons_succ])
        refine wpAnyH_take (i := 8) (oi := { dst := some 72, op := Go.Op.load 5 (Go.Operand.tmp 71), type := 5, pos := "outright.go:65", after := #[{ on := 7, ground := Go.Ground.data }, { on := 2, ground := Go.Ground.guard }], guard := some (2, true) }) (v := ?_) rfl (by kernel_rfl) (by kernel_rfl) (by kernel_rfl) (fun _ _ _ h => h) (Or.inl ⟨by rfl, ?_⟩) (by assumption) ?_
        rotate_left 1
        · intro w' hSw; (go_simp <;> (with_reducible rfl))
        (try simp only [Act.put, List.setIfInBounds_toArray, List.set_cons_zero, List.set_cons_succ])
        refine wpAnyH_take (i := 9) (oi := { dst := some 73, op := Go.Op.binOp Go.BinOp.eql 5 (Go.Operand.tmp 70) (Go.Operand.tmp 72) 5, type := 4, pos := "outright.go:65", after := #[{ on := 6, ground := Go.Ground.data }, { on := 8, ground := Go.Ground.data }, { on := 2, ground := Go.Ground.guard }], guard := some (2, true) }) (v := ?_) rfl (by kernel_rfl) (by kernel_rfl) (by kernel_rfl) (fun _ _ _ h => h) (Or.inl ⟨by rfl, ?_⟩) (by assumption) ?_
        rotate_left 1
        · intro w' hSw; (go_simp <;> (with_reducible rfl))
        (try simp only [Act.put, List.setIfInBounds_toArray, List.set_cons_zero, List.set_cons_succ])
        refine wpAnyH_ready (rs := [4]) (by kernel_rfl) (by simp) ?_
        refine AllReadyH.cons (o := { dst := some 68, op := Go.Op.call { callee := Go.Callee.value (Go.Operand.tmp 67), args := #[Go.Operand.const (Go.Value.int Go.IntKind.i64 1), Go.Operand.const (Go.Value.int Go.IntKind.i64 2)], argTypes := #[3, 3] }, type := 4, pos := "outright.go:65", after := #[{ on := 3, ground := Go.Ground.data }, { on := 2, ground := Go.Ground.chain }, { on := 2, ground := Go.Ground.guard }], guard := some (2, true) }) rfl (fun K hK => ?_) AllReadyH.nil
        go_simp
        (go_at_call 8; (with_reducible refine (same_at _ _ g g' c3 c4 m 1 2 1 2 L L' (tos == tos') _ rfl rfl (by omega) (by omega) hk3 hk4 HH.out.bp HH.out.bq HH.out.r1 HH.out.r2 HP.out.s1).mono ?_); rintro e w7 ⟨rfl, k7, hk7⟩; have HH := Lib.hid (Held.drewN_ HH.out hk7); clear hk7)
        refine hK.out _ _ ?_ (fun hHeld => ?_)
        · exact HH.out.cells
        clear hK K
        (try simp only [Act.put, List.setIfInBounds_toArray, List.set_cons_zero, List.set_cons_succ])
        refine wpAnyH_take (i := 10) (oi := { dst := some 74, op := Go.Op.binOp Go.BinOp.eql 4 (Go.Operand.tmp 68) (Go.Operand.tmp 73) 4, type := 4, pos := "outright.go:65", after := #[{ on := 4, ground := Go.Ground.data }, { on := 9, ground := Go.Ground.data }, { on := 2, ground := Go.Ground.guard }], guard := some (2, true) }) (v := ?_) rfl (by kernel_rfl) (by kernel_rfl) (by kernel_rfl) (fun _ _ _ h => h) (Or.inl ⟨by rfl, ?_⟩) (by assumption) ?_
        rotate_left 1
        · intro w' hSw; (go_simp <;> (with_reducible rfl))
        (try simp only [Act.put, List.setIfInBounds_toArray, List.set_cons_zero, List.set_cons_succ])
        refine wpAnyH_take (i := 11) (oi := { dst := some 75, op := Go.Op.pick (Go.Operand.tmp 66) (Go.Operand.tmp 74) (Go.Operand.const (Go.Value.bool false)), type := 4, pos := "outright.go:65", after := #[{ on := 2, ground := Go.Ground.data }, { on := 10, ground := Go.Ground.data }], guard := none }) (v := ?_) rfl (by kernel_rfl) (by kernel_rfl) (by kernel_rfl) (fun _ _ _ h => h) (Or.inl ⟨by rfl, ?_⟩) (by assumption) ?_
        rotate_left 1
        · intro w' hSw; (go_simp <;> (with_reducible rfl))
        (try simp only [Act.put, List.setIfInBounds_toArray, List.set_cons_zero, List.set_cons_succ])
        refine wpAnyH_take (i := 12) (oi := { dst := some 76, op := Go.Op.move (Go.Operand.tmp 75), type := 4, pos := "outright.go:65", after := #[{ on := 11, ground := Go.Ground.data }, { on := 4, ground := Go.Ground.chain }], guard := none }) (v := ?_) rfl (by kernel_rfl) (by kernel_rfl) (by kernel_rfl) (fun _ _ _ h => h) (Or.inl ⟨by rfl, ?_⟩) (by assumption) ?_
        rotate_left 1
        · intro w' hSw; (go_simp <;> (with_reducible rfl))
        (try simp only [Act.put, List.setIfInBounds_toArray, List.set_cons_zero, List.set_cons_succ])
        refine wpAnyH_take (i := 13) (oi := { dst := some 77, op := Go.Op.move (Go.Operand.tmp 11), type := 32, pos := "outright.go:65", after := #[{ on := 12, ground := Go.Ground.guard }], guard := some (12, true) }) (v := ?_) rfl (by kernel_rfl) (by kernel_rfl) (by kernel_rfl) (fun _ _ _ h => h) (Or.inl ⟨by rfl, ?_⟩) (by assumption) ?_
        rotate_left 1
        · intro w' hSw; (go_simp <;> (with_reducible rfl))
        (try simp only [Act.put, List.setIfInBounds_toArray, List.set_cons_zero, List.set_cons_succ])
        refine wpAnyH_ready (rs := [14]) (by kernel_rfl) (by simp) ?_
        refine AllReadyH.cons (o := { dst := some 78, op := Go.Op.call { callee := Go.Callee.value (Go.Operand.tmp 77), args := #[Go.Operand.const (Go.Value.int Go.IntKind.i64 2), Go.Operand.const (Go.Value.int Go.IntKind.i64 4)], argTypes := #[3, 3] }, type := 4, pos := "outright.go:65", after := #[{ on := 13, ground := Go.Ground.data }, { on := 12, ground := Go.Ground.chain }, { on := 12, ground := Go.Ground.guard }], guard := some (12, true) }) rfl (fun K hK => ?_) AllReadyH.nil
        go_simp
        (go_at_call 8; (with_reducible refine (same_at _ _ g g' c3 c4 m 2 4 2 4 L L' true _ rfl rfl (by omega) (by omega) hk3 hk4 HH.out.bp HH.out.bq HH.out.r1 HH.out.r2 HP.out.s2).mono ?_); rintro e w7 ⟨rfl, k7, hk7⟩; have HH := Lib.hid (Held.drewN_ HH.out hk7); clear hk7)
        refine hK.out _ _ ?_ (fun hHeld => ?_)
        · exact HH.out.cells
        clear hK K
        (try simp only [Act.put, List.setIfInBounds_toArray, List.set_cons_zero, List.set_cons_succ])
        refine wpAnyH_take (i := 15) (oi := { dst := some 79, op := Go.Op.pick (Go.Operand.tmp 76) (Go.Operand.tmp 78) (Go.Operand.const (Go.Value.bool false)), type := 4, pos := "outright.go:65", after := #[{ on := 12, ground := Go.Ground.data }, { on := 14, ground := Go.Ground.data }], guard := none }) (v := ?_) rfl (by kernel_rfl) (by kernel_rfl) (by kernel_rfl) (fun _ _ _ h => h) (Or.inl ⟨by rfl, ?_⟩) (by assumption) ?_
        rotate_left 1
        · intro w' hSw; (go_simp <;> (with_reducible rfl))
        (try simp only [Act.put, List.setIfInBounds_toArray, List.set_cons_zero, List.set_cons_succ])
        refine wpAnyH_take (i := 16) (oi := { dst := some 80, op := Go.Op.move (Go.Operand.tmp 79), type := 4, pos := "outright.go:65", after := #[{ on := 15, ground := Go.Ground.data }, { on := 14, ground := Go.Ground.chain }], guard := none }) (v := ?_) rfl (by kernel_rfl) (by kernel_rfl) (by kernel_rfl) (fun _ _ _ h => h) (Or.inl ⟨by rfl, ?_⟩) (by assumption) ?_
        rotate_left 1
        · intro w' hSw; (go_simp <;> (with_reducible rfl))
        (try simp only [Act.put, List.setIfInBounds_toArray, List.set_cons_zero, List.set_cons_succ])
        refine wpAnyH_take (i := 17) (oi := { dst := some 81, op := Go.Op.move (Go.Operand.tmp 11), type := 32, pos := "outright.go:65", after := #[{ on := 16, ground := Go.Ground.guard }], guard := some (16, true) }) (v := ?_) rfl (by kernel_rfl) (by kernel_rfl) (by kernel_rfl) (fun _ _ _ h => h) (Or.inl ⟨by rfl, ?_⟩) (by assumption) ?_
        rotate_left 1
        · intro w' hSw; (go_simp <;> (with_reducible rfl))
        (try simp only [Act.put, List.setIfInBounds_toArray, List.set_cons_zero, List.set_cons_succ])
        refine wpAnyH_take (i := 19) (oi := { dst := some 83, op := Go.Op.fieldAddr 26 (Go.Operand.tmp 3) 1, type := 0, pos := "outright.go:65", after := #[{ on := 16, ground := Go.Ground.guard }], guard := some (16, true) }) (v := ?_) rfl (by kernel_rfl) (by kernel_rfl) (by kernel_rfl) (fun _ _ _ h => h) (Or.inl ⟨by rfl, ?_⟩) (by assumption) ?_
        rotate_left 1
        · intro w' hSw; (go_simp <;> (with_reducible rfl))
        (try simp only [Act.put, List.setIfInBounds_toArray, List.set_cons_zero, List.set_cons_succ])
        refine wpAnyH_take (i := 20) (oi := { dst := some 84, op := Go.Op.load 22 (Go.Operand.tmp 83), type := 22, pos := "outright.go:65", after := #[{ on := 19, ground := Go.Ground.data }, { on := 16, ground := Go.Ground.guard }], guard := some (16, true) }) (v := ?_) rfl (by kernel_rfl) (by kernel_rfl) (by kernel_rfl) (fun _ _ _ h => h) (Or.inl ⟨by rfl, ?_⟩) (by assumption) ?_
        rotate_left 1
        · intro w' hSw; (go_simp <;> (with_reducible rfl))
        (try simp only [Act.put, List.setIfInBounds_toArray, List.set_cons_zero, List.set_cons_succ])
        refine wpAnyH_take (i := 21) (oi := { dst := some 85, op := Go.Op.fieldAddr 26 (Go.Operand.tmp 4) 1, type := 0, pos := "outright.go:65", after := #[{ on := 16, ground := Go.Ground.guard }], guard := some (16, true) }) (v := ?_) rfl (by kernel_rfl) (by kernel_rfl) (by kernel_rfl) (fun _ _ _ h => h) (Or.inl ⟨by rfl, ?_⟩) (by assumption) ?_
        rotate_left 1
        · intro w' hSw; (go_simp <;> (with_reducible rfl))
        (try simp only [Act.put, List.setIfInBounds_toArray, List.set_cons_zero, List.set_cons_succ])
        refine wpAnyH_take (i := 22) (oi := { dst := some 86, op := Go.Op.load 22 (Go.Operand.tmp 85), type := 22, pos := "outright.go:65", after := #[{ on := 21, ground := Go.Ground.data }, { on := 16, ground := Go.Ground.guard }], guard := some (16, true) }) (v := ?_) rfl (by kernel_rfl) (by kernel_rfl) (by kernel_rfl) (fun _ _ _ h => h) (Or.inl ⟨by rfl, ?_⟩) (by assumption) ?_
        rotate_left 1
        · intro w' hSw; (go_simp <;> (with_reducible rfl))
        (try simp only [Act.put, List.setIfInBounds_toArray, List.set_cons_zero, List.set_cons_succ])
        refine wpAnyH_take (i := 23) (oi := { dst := some 87, op := Go.Op.binOp Go.BinOp.eql 22 (Go.Operand.tmp 84) (Go.Operand.tmp 86) 22, type := 4, pos := "outright.go:65", after := #[{ on := 20, ground := Go.Ground.data }, { on := 22, ground := Go.Ground.data }, { on := 16, ground := Go.Ground.guard }], guard := some (16, true) }) (v := ?_) rfl (by kernel_rfl) (by kernel_rfl) (by kernel_rfl) (fun _ _ _ h => h) (Or.inl ⟨by rfl, ?_⟩) (by assumption) ?_
        rotate_left 1
        · intro w' hSw; (go_simp <;> (with_reducible rfl))
        (try simp only [Act.put, List.setIfInBounds_toArray, List.set_cons_zero, List.set_cons_succ])
        refine wpAnyH_ready (rs := [18]) (by kernel_rfl) (by simp) ?_
        refine AllReadyH.cons (o := { dst := some 82, op := Go.Op.call { callee := Go.Callee.value (Go.Operand.tmp 81), args := #[Go.Operand.const (Go.Value.int Go.IntKind.i64 4), Go.Operand.const (Go.Value.int Go.IntKind.i64 6)], argTypes := #[3, 3] }, type := 4, pos := "outright.go:65", after := #[{ on := 17, ground := Go.Ground.data }, { on := 16, ground := Go.Ground.chain }, { on := 16, ground := Go.Ground.guard }], guard := some (16, true) }) rfl (fun K hK => ?_) AllReadyH.nil
        go_simp
        (go_at_call 8; (with_reducible refine (same_at _ _ g g' c3 c4 m 4 6 4 6 L L' (id_ == id') _ rfl rfl (by omega) (by omega) hk3 hk4 HH.out.bp HH.out.bq HH.out.r1 HH.out.r2 HP.out.s4).mono ?_); rintro e w7 ⟨rfl, k7, hk7⟩; have HH := Lib.hid (Held.drewN_ HH.out hk7); clear hk7)
        refine hK.out _ _ ?_ (fun hHeld => ?_)
        · exact HH.out.cells
        clear hK K
        (try simp only [Act.put, List.setIfInBounds_toArray, List.set_cons_zero, List.set_cons_succ])
        refine wpAnyH_take (i := 24) (oi := { dst := some 88, op := Go.Op.binOp Go.BinOp.eql 4 (Go.Operand.tmp 82) (Go.Operand.tmp 87) 4, type := 4, pos := "outright.go:65", after := #[{ on := 18, ground := Go.Ground.data }, { on := 23, ground := Go.Ground.data }, { on := 16, ground := Go.Ground.guard }], guard := some (16, true) }) (v := ?_) rfl (by kernel_rfl) (by kernel_rfl) (by kernel_rfl) (fun _ _ _ h => h) (Or.inl ⟨by rfl, ?_⟩) (by assumption) ?_
        rotate_left 1
        · intro w' hSw; (go_simp <;> (with_reducible rfl))
        (try simp only [Act.put, List.setIfInBounds_toArray, List.set_cons_zero, List.set_cons_succ])
        refine wpAnyH_take (i := 25) (oi := { dst := some 89, op := Go.Op.pick (Go.Operand.tmp 80) (Go.Operand.tmp 88) (Go.Operand.const (Go.Value.bool false)), type := 4, pos := "outright.go:65", after := #[{ on := 16, ground := Go.Ground.data }, { on := 24, ground := Go.Ground.data }], guard := none }) (v := ?_) rfl (by kernel_rfl) (by kernel_rfl) (by kernel_rfl) (fun _ _ _ h => h) (Or.inl ⟨by rfl, ?_⟩) (by assumption) ?_
        rotate_left 1
        · intro w' hSw; (go_simp <;> (with_reducible rfl))
        (try simp only [Act.put, List.setIfInBounds_toArray, List.set_cons_zero, List.set_cons_succ])
        refine wpAnyH_take (i := 26) (oi := { dst := some 90, op := Go.Op.move (Go.Operand.tmp 89), type := 4, pos := "outright.go:65", after := #[{ on := 25, ground := Go.Ground.data }, { on := 18, ground := Go.Ground.chain }], guard := none }) (v := ?_) rfl (by kernel_rfl) (by kernel_rfl) (by kernel_rfl) (fun _ _ _ h => h) (Or.inl ⟨by rfl, ?_⟩) (by assumption) ?_
        rotate_left 1
        · intro w' hSw; (go_simp <;> (with_reducible rfl))
        (try simp only [Act.put, List.setIfInBounds_toArray, List.set_cons_zero, List.set_cons_succ])
        refine wpAnyH_take (i := 27) (oi := { dst := some 91, op := Go.Op.move (Go.Operand.tmp 11), type := 32, pos := "outright.go:65", after := #[{ on := 26, ground := Go.Ground.guard }], guard := some (26, true) }) (v := ?_) rfl (by kernel_rfl) (by kernel_rfl) (by kernel_rfl) (fun _ _ _ h => h) (Or.inl ⟨by rfl, ?_⟩) (by assumption) ?_
        rotate_left 1
        · intro w' hSw; (go_simp <;> (with_reducible rfl))
        (try simp only [Act.put, List.setIfInBounds_toArray, List.set_cons_zero, List.set_cons_succ])
        refine wpAnyH_take (i := 29) (oi := { dst := some 93, op := Go.Op.fieldAddr 26 (Go.Operand.tmp 3) 2, type := 0, pos := "outright.go:65", after := #[{ on := 26, ground := Go.Ground.guard }], guard := some (26, true) }) (v := ?_) rfl (by kernel_rfl) (by kernel_rfl) (by kernel_rfl) (fun _ _ _ h => h) (Or.inl ⟨by rfl, ?_⟩) (by assumption) ?_
        rotate_left 1
        · intro w' hSw; (go_simp <;> (with_reducible rfl))
        (try simp only [Act.put, List.setIfInBounds_toArray, List.set_cons_zero, List.set_cons_succ])
        refine wpAnyH_take (i := 30) (oi := { dst := some 94, op := Go.Op.load 4 (Go.Operand.tmp 93), type := 4, pos := "outright.go:65", after := #[{ on := 29, ground := Go.Ground.data }, { on := 26, ground := Go.Ground.guard }], guard := some (26, true) }) (v := ?_) rfl (by kernel_rfl) (by kernel_rfl) (by kernel_rfl) (fun _ _ _ h => h) (Or.inl ⟨by rfl, ?_⟩) (by assumption) ?_
        rotate_left 1
        · intro w' hSw; (go_simp <;> (with_reducible rfl))
        (try simp only [Act.put, List.setIfInBounds_toArray, List.set_cons_zero, List.set_cons_succ])
        refine wpAnyH_take (i := 31) (oi := { dst := some 95, op := Go.Op.fieldAddr 26 (Go.Operand.tmp 4) 2, type := 0, pos := "outright.go:65", after := #[{ on := 26, ground := Go.Ground.guard }], guard := some (26, true) }) (v := ?_) rfl (by kernel_rfl) (by kernel_rfl) (by kernel_rfl) (fun _ _ _ h => h) (Or.inl ⟨by rfl, ?_⟩) (by assumption) ?_
        rotate_left 1
        · intro w' hSw; (go_simp <;> (with_reducible rfl))
        (try simp only [Act.put, List.setIfInBounds_toArray, List.set_cons_zero, List.set_cons_succ])
        refine wpAnyH_take (i := 32) (oi := { dst := some 96, op := Go.Op.load 4 (Go.Operand.tmp 95), type := 4, pos := "outright.go:65", after := #[{ on := 31, ground := Go.Ground.data }, { on := 26, ground := Go.Ground.guard }], guard := some (26, true) }) (v := ?_) rfl (by kernel_rfl) (by kernel_rfl) (by kernel_rfl) (fun _ _ _ h => h) (Or.inl ⟨by rfl, ?_⟩) (by assumption) ?_
        rotate_left 1
        · intro w' hSw; (go_simp <;> (with_reducible rfl))
        (try simp only [Act.put, List.setIfInBounds_toArray, List.set_cons_zero, List.set_cons_succ])
        refine wpAnyH_take (i := 33) (oi := { dst := some 97, op := Go.Op.binOp Go.BinOp.eql 4 (Go.Operand.tmp 94) (Go.Operand.tmp 96) 4, type := 4, pos := "outright.go:65", after := #[{ on := 30, ground := Go.Ground.data }, { on := 32, ground := Go.Ground.data }, { on := 26, ground := Go.Ground.guard }], guard := some (26, true) }) (v := ?_) rfl (by kernel_rfl) (by kernel_rfl) (by kernel_rfl) (fun _ _ _ h => h) (Or.inl ⟨by rfl, ?_⟩) (by assumption) ?_
        rotate_left 1
        · intro w' hSw; (go_simp <;> (with_reducible rfl))
        (try simp only [Act.put, List.setIfInBounds_toArray, List.set_cons_zero, List.set_cons_succ])
        refine wpAnyH_ready (rs := [28]) (by kernel_rfl) (by simp) ?_
        refine AllReadyH.cons (o := { dst := some 92, op := Go.Op.call { callee := Go.Callee.value (Go.Operand.tmp 91), args := #[Go.Operand.const (Go.Value.int Go.IntKind.i64 6), Go.Operand.const (Go.Value.int Go.IntKind.i64 8)], argTypes := #[3, 3] }, type := 4, pos := "outright.go:65", after := #[{ on := 27, ground := Go.Ground.data }, { on := 26, ground := Go.Ground.chain }, { on := 26, ground := Go.Ground.guard }], guard := some (26, true) }) rfl (fun K hK => ?_) AllReadyH.nil
        go_simp
        (go_at_call 8; (with_reducible refine (same_at _ _ g g' c3 c4 m 6 8 6 8 L L' (df == df') _ rfl rfl (by omega) (by omega) hk3 hk4 HH.out.bp HH.out.bq HH.out.r1 HH.out.r2 HP.out.s6).mono ?_); rintro e w7 ⟨rfl, k7, hk7⟩; have HH := Lib.hid (Held.drewN_ HH.out hk7); clear hk7)
        refine hK.out _ _ ?_ (fun hHeld => ?_)
        · exact HH.out.cells
        clear hK K
        (try simp only [Act.put, List.setIfInBounds_toArray, List.set_cons_zero, List.set_cons_succ])
        refine wpAnyH_take (i := 34) (oi := { dst := some 98, op := Go.Op.binOp Go.BinOp.eql 4 (Go.Operand.tmp 92) (Go.Operand.tmp 97) 4, type := 4, pos := "outright.go:65", after := #[{ on := 28, ground := Go.Ground.data }, { on := 33, ground := Go.Ground.data }, { on := 26, ground := Go.Ground.guard }], guard := some (26, true) }) (v := ?_) rfl (by kernel_rfl) (by kernel_rfl) (by kernel_rfl) (fun _ _ _ h => h) (Or.inl ⟨by rfl, ?_⟩) (by assumption) ?_
        rotate_left 1
        · intro w' hSw; (go_simp <;> (with_reducible rfl))
        (try simp only [Act.put, List.setIfInBounds_toArray, List.set_cons_zero, List.set_cons_succ])
        refine wpAnyH_take (i := 35) (oi := { dst := some 99, op := Go.Op.pick (Go.Operand.tmp 90) (Go.Operand.tmp 98) (Go.Operand.const (Go.Value.bool false)), type := 4, pos := "outright.go:65", after := #[{ on := 26, ground := Go.Ground.data }, { on := 34, ground := Go.Ground.data }], guard := none }) (v := ?_) rfl (by kernel_rfl) (by kernel_rfl) (by kernel_rfl) (fun _ _ _ h => h) (Or.inl ⟨by rfl, ?_⟩) (by assumption) ?_
        rotate_left 1
        · intro w' hSw; (go_simp <;> (with_reducible rfl))
        (try simp only [Act.put, List.setIfInBounds_toArray, List.set_cons_zero, List.set_cons_succ])
        refine wpAnyH_take (i := 36) (oi := { dst := some 100, op := Go.Op.move (Go.Operand.tmp 99), type := 4, pos := "outright.go:65", after := #[{ on := 35, ground := Go.Ground.data }, { on := 28, ground := Go.Ground.chain }], guard := none }) (v := ?_) rfl (by kernel_rfl) (by kernel_rfl) (by kernel_rfl) (fun _ _ _ h => h) (Or.inl ⟨by rfl, ?_⟩) (by assumption) ?_
        rotate_left 1
        · intro w' hSw; (go_simp <;> (with_reducible rfl))
        (try simp only [Act.put, List.setIfInBounds_toArray, List.set_cons_zero, List.set_cons_succ])
        refine wpAnyH_take (i := 37) (oi := { dst := some 101, op := Go.Op.move (Go.Operand.tmp 11), type := 32, pos := "outright.go:65", after := #[{ on := 36, ground := Go.Ground.guard }], guard := some (36, true) }) (v := ?_) rfl (by kernel_rfl) (by kernel_rfl) (by kernel_rfl) (fun _ _ _ h => h) (Or.inl ⟨by rfl, ?_⟩) (by assumption) ?_
        rotate_left 1
        · intro w' hSw; (go_simp <;> (with_reducible rfl))
        (try simp only [Act.put, List.setIfInBounds_toArray, List.set_cons_zero, List.set_cons_succ])
        refine wpAnyH_take (i := 39) (oi := { dst := some 103, op := Go.Op.fieldAddr 26 (Go.Operand.tmp 3) 3, type := 0, pos := "outright.go:65", after := #[{ on := 36, ground := Go.Ground.guard }], guard := some (36, true) }) (v := ?_) rfl (by kernel_rfl) (by kernel_rfl) (by kernel_rfl) (fun _ _ _ h => h) (Or.inl ⟨by rfl, ?_⟩) (by assumption) ?_
        rotate_left 1
        · intro w' hSw; (go_simp <;> (with_reducible rfl))
        (try simp only [Act.put, List.setIfInBounds_toArray, List.set_cons_zero, List.set_cons_succ])
        refine wpAnyH_take (i := 40) (oi := { dst := some 104, op := Go.Op.load 5 (Go.Operand.tmp 103), type := 5, pos := "outright.go:65", after := #[{ on := 39, ground := Go.Ground.data }, { on := 36, ground := Go.Ground.guard }], guard := some (36, true) }) (v := ?_) rfl (by kernel_rfl) (by kernel_rfl) (by kernel_rfl) (fun _ _ _ h => h) (Or.inl ⟨by rfl, ?_⟩) (by assumption) ?_
        rotate_left 1
        · intro w' hSw; (go_simp <;> (with_reducible rfl))
        (try simp only [Act.put, List.setIfInBounds_toArray, List.set_cons_zero, List.set_cons_succ])
        refine wpAnyH_take (i := 41) (oi := { dst := some 105, op := Go.Op.fieldAddr 26 (Go.Operand.tmp 4) 3, type := 0, pos := "outright.go:65", after := #[{ on := 36, ground := Go.Ground.guard }], guard := some (36, true) }) (v := ?_) rfl (by kernel_rfl) (by kernel_rfl) (by kernel_rfl) (fun _ _ _ h => h) (Or.inl ⟨by rfl, ?_⟩) (by assumption) ?_
        rotate_left 1
        · intro w' hSw; (go_simp <;> (with_reducible rfl))
        (try simp only [Act.put, List.setIfInBounds_toArray, List.set_cons_zero, List.set_cons_succ])
        refine wpAnyH_take (i := 42) (oi := { dst := some 106, op := Go.Op.load 5 (Go.Operand.tmp 105), type := 5, pos := "outright.go:65", after := #[{ on := 41, ground := Go.Ground.data }, { on := 36, ground := Go.Ground.guard }], guard := some (36, true) }) (v := ?_) rfl (by kernel_rfl) (by kernel_rfl) (by kernel_rfl) (fun _ _ _ h => h) (Or.inl ⟨by rfl, ?_⟩) (by assumption) ?_
        rotate_left 1
        · intro w' hSw; (go_simp <;> (with_reducible rfl))
        (try simp only [Act.put, List.setIfInBounds_toArray, List.set_cons_zero, List.set_cons_succ])
        refine wpAnyH_take (i := 43) (oi := { dst := some 107, op := Go.Op.binOp Go.BinOp.eql 5 (Go.Operand.tmp 104) (Go.Operand.tmp 106) 5, type := 4, pos := "outright.go:65", after := #[{ on := 40, ground := Go.Ground.data }, { on := 42, ground := Go.Ground.data }, { on := 36, ground := Go.Ground.guard }], guard := some (36, true) }) (v := ?_) rfl (by kernel_rfl) (by kernel_rfl) (by kernel_rfl) (fun _ _ _ h => h) (Or.inl ⟨by rfl, ?_⟩) (by assumption) ?_
        rotate_left 1
        · intro w' hSw; (go_simp <;> (with_reducible rfl))
        (try simp only [Act.put, List.setIfInBounds_toArray, List.set_cons_zero, List.set_cons_succ])
        refine wpAnyH_ready (rs := [38]) (by kernel_rfl) (by simp) ?_
        refine AllReadyH.cons (o := { dst := some 102, op := Go.Op.call { callee := Go.Callee.value (Go.Operand.tmp 101), args := #[Go.Operand.const (Go.Value.int Go.IntKind.i64 8), Go.Operand.const (Go.Value.int Go.IntKind.i64 9)], argTypes := #[3, 3] }, type := 4, pos := "outright.go:65", after := #[{ on := 37, ground := Go.Ground.data }, { on := 36, ground := Go.Ground.chain }, { on := 36, ground := Go.Ground.guard }], guard := some (36, true) }) rfl (fun K hK => ?_) AllReadyH.nil
        go_simp
        (go_at_call 8; (with_reducible refine (same_at _ _ g g' c3 c4 m 8 9 8 9 L L' (ttl == ttl') _ rfl rfl (by omega) (by omega) hk3 hk4 HH.out.bp HH.out.bq HH.out.r1 HH.out.r2 HP.out.s8).mono ?_); rintro e w7 ⟨rfl, k7, hk7⟩; have HH := Lib.hid (Held.drewN_ HH.out hk7); clear hk7)
        refine hK.out _ _ ?_ (fun hHeld => ?_)
        · exact HH.out.cells
        clear hK K
        (try simp only [Act.put, List.setIfInBounds_toArray, List.set_cons_zero, List.set_cons_succ])
        refine wpAnyH_take (i := 44) (oi := { dst := some 108, op := Go.Op.binOp Go.BinOp.eql 4 (Go.Operand.tmp 102) (Go.Operand.tmp 107) 4, type := 4, pos := "outright.go:65", after := #[{ on := 38, ground := Go.Ground.data }, { on := 43, ground := Go.Ground.data }, { on := 36, ground := Go.Ground.guard }], guard := some (36, true) }) (v := ?_) rfl (by kernel_rfl) (by kernel_rfl) (by kernel_rfl) (fun _ _ _ h => h) (Or.inl ⟨by rfl, ?_⟩) (by assumption) ?_
        rotate_left 1
        · intro w' hSw; (go_simp <;> (with_reducible rfl))
        (try simp only [Act.put, List.setIfInBounds_toArray, List.set_cons_zero, List.set_cons_succ])
        refine wpAnyH_take (i := 45) (oi := { dst := some 109, op := Go.Op.pick (Go.Operand.tmp 100) (Go.Operand.tmp 108) (Go.Operand.const (Go.Value.bool false)), type := 4, pos := "outright.go:65", after := #[{ on := 36, ground := Go.Ground.data }, { on := 44, ground := Go.Ground.data }], guard := none }) (v := ?_) rfl (by kernel_rfl) (by kernel_rfl) (by kernel_rfl) (fun _ _ _ h => h) (Or.inl ⟨by rfl, ?_⟩) (by assumption) ?_
        rotate_left 1
        · intro w' hSw; (go_simp <;> (with_reducible rfl))
        (try simp only [Act.put, List.setIfInBounds_toArray, List.set_cons_zero, List.set_cons_succ])
        refine wpAnyH_take (i := 46) (oi := { dst := some 110, op := Go.Op.move (Go.Operand.tmp 109), type := 4, pos := "outright.go:65", after := #[{ on := 45, ground := Go.Ground.data }, { on := 38, ground := Go.Ground.chain }], guard := none }) (v := ?_) rfl (by kernel_rfl) (by kernel_rfl) (by kernel_rfl) (fun _ _ _ h => h) (Or.inl ⟨by rfl, ?_⟩) (by assumption) ?_
        rotate_left 1
        · intro w' hSw; (go_simp <;> (with_reducible rfl))
        (try simp only [Act.put, List.setIfInBounds_toArray, List.set_cons_zero, List.set_cons_succ])
        refine wpAnyH_take (i := 47) (oi := { dst := some 111, op := Go.Op.move (Go.Operand.tmp 11), type := 32, pos := "outright.go:65", after := #[{ on := 46, ground := Go.Ground.guard }], guard := some (46, true) }) (v := ?_) rfl (by kernel_rfl) (by kernel_rfl) (by kernel_rfl) (fun _ _ _ h => h) (Or.inl ⟨by rfl, ?_⟩) (by assumption) ?_
        rotate_left 1
        · intro w' hSw; (go_simp <;> (with_reducible rfl))
        (try simp only [Act.put, List.setIfInBounds_toArray, List.set_cons_zero, List.set_cons_succ])
        refine wpAnyH_take (i := 49) (oi := { dst := some 113, op := Go.Op.fieldAddr 26 (Go.Operand.tmp 3) 4, type := 0, pos := "outright.go:65", after := #[{ on := 46, ground := Go.Ground.guard }], guard := some (46, true) }) (v := ?_) rfl (by kernel_rfl) (by kernel_rfl) (by kernel_rfl) (fun _ _ _ h => h) (Or.inl ⟨by rfl, ?_⟩) (by assumption) ?_
        rotate_left 1
        · intro w' hSw; (go_simp <;> (with_reducible rfl))
        (try simp only [Act.put, List.setIfInBounds_toArray, List.set_cons_zero, List.set_cons_succ])
        refine wpAnyH_take (i := 50) (oi := { dst := some 114, op := Go.Op.load 5 (Go.Operand.tmp 113), type := 5, pos := "outright.go:65", after := #[{ on := 49, ground := Go.Ground.data }, { on := 46, ground := Go.Ground.guard }], guard := some (46, true) }) (v := ?_) rfl (by kernel_rfl) (by kernel_rfl) (by kernel_rfl) (fun _ _ _ h => h) (Or.inl ⟨by rfl, ?_⟩) (by assumption) ?_
        rotate_left 1
        · intro w' hSw; (go_simp <;> (with_reducible rfl))
        (try simp only [Act.put, List.setIfInBounds_toArray, List.set_cons_zero, List.set_cons_succ])
        refine wpAnyH_take (i := 51) (oi := { dst := some 115, op := Go.Op.fieldAddr 26 (Go.Operand.tmp 4) 4, type := 0, pos := "outright.go:65", after := #[{ on := 46, ground := Go.Ground.guard }], guard := some (46, true) }) (v := ?_) rfl (by kernel_rfl) (by kernel_rfl) (by kernel_rfl) (fun _ _ _ h => h) (Or.inl ⟨by rfl, ?_⟩) (by assumption) ?_
        rotate_left 1
        · intro w' hSw; (go_simp <;> (with_reducible rfl))
        (try simp only [Act.put, List.setIfInBounds_toArray, List.set_cons_zero, List.set_cons_succ])
        refine wpAnyH_take (i := 52) (oi := { dst := some 116, op := Go.Op.load 5 (Go.Operand.tmp 115), type := 5, pos := "outright.go:65", after := #[{ on := 51, ground := Go.Ground.data }, { on := 46, ground := Go.Ground.guard }], guard := some (46, true) }) (v := ?_) rfl (by kernel_rfl) (by kernel_rfl) (by kernel_rfl) (fun _ _ _ h => h) (Or.inl ⟨by rfl, ?_⟩) (by assumption) ?_
        rotate_left 1
        · intro w' hSw; (go_simp <;> (with_reducible rfl))
        (try simp only [Act.put, List.setIfInBounds_toArray, List.set_cons_zero, List.set_cons_succ])
        refine wpAnyH_take (i := 53) (oi := { dst := some 117, op := Go.Op.binOp Go.BinOp.eql 5 (Go.Operand.tmp 114) (Go.Operand.tmp 116) 5, type := 4, pos := "outright.go:65", after := #[{ on := 50, ground := Go.Ground.data }, { on := 52, ground := Go.Ground.data }, { on := 46, ground := Go.Ground.guard }], guard := some (46, true) }) (v := ?_) rfl (by kernel_rfl) (by kernel_rfl) (by kernel_rfl) (fun _ _ _ h => h) (Or.inl ⟨by rfl, ?_⟩) (by assumption) ?_
        rotate_left 1
        · intro w' hSw; (go_simp <;> (with_reducible rfl))
        (try simp only [Act.put, List.setIfInBounds_toArray, List.set_cons_zero, List.set_cons_succ])
        refine wpAnyH_ready (rs := [48]) (by kernel_rfl) (by simp) ?_
        refine AllReadyH.cons (o := { dst := some 112, op := Go.Op.call { callee := Go.Callee.value (Go.Operand.tmp 111), args := #[Go.Operand.const (Go.Value.int Go.IntKind.i64 9), Go.Operand.const (Go.Value.int Go.IntKind.i64 10)], argTypes := #[3, 3] }, type := 4, pos := "outright.go:65", after := #[{ on := 47, ground := Go.Ground.data }, { on := 46, ground := Go.Ground.chain }, { on := 46, ground := Go.Ground.guard }], guard := some (46, true) }) rfl (fun K hK => ?_) AllReadyH.nil
        go_simp
        (go_at_call 8; (with_reducible refine (same_at _ _ g g' c3 c4 m 9 10 9 10 L L' (proto == proto') _ rfl rfl (by omega) (by omega) hk3 hk4 HH.out.bp HH.out.bq HH.out.r1 HH.out.r2 HP.out.s9).mono ?_); rintro e w7 ⟨rfl, k7, hk7⟩; have HH := Lib.hid (Held.drewN_ HH.out hk7); clear hk7)
        refine hK.out _ _ ?_ (fun hHeld => ?_)
        · exact HH.out.cells
        clear hK K
        (try simp only [Act.put, List.setIfInBounds_toArray, List.set_cons_zero, List.set_cons_succ])
        refine wpAnyH_take (i := 54) (oi := { dst := some 118, op := Go.Op.binOp Go.BinOp.eql 4 (Go.Operand.tmp 112) (Go.Operand.tmp 117) 4, type := 4, pos := "outright.go:65", after := #[{ on := 48, ground := Go.Ground.data }, { on := 53, ground := Go.Ground.data }, { on := 46, ground := Go.Ground.guard }], guard := some (46, true) }) (v := ?_) rfl (by kernel_rfl) (by kernel_rfl) (by kernel_rfl) (fun _ _ _ h => h) (Or.inl ⟨by rfl, ?_⟩) (by assumption) ?_
        rotate_left 1
        · intro w' hSw; (go_simp <;> (with_reducible rfl))
        (try simp only [Act.put, List.setIfInBounds_toArray, List.set_cons_zero, List.set_cons_succ])
        refine wpAnyH_take (i := 55) (oi := { dst := some 119, op := Go.Op.pick (Go.Operand.tmp 110) (Go.Operand.tmp 118) (Go.Operand.const (Go.Value.bool false)), type := 4, pos := "outright.go:65", after := #[{ on := 46, ground := Go.Ground.data }, { on := 54, ground := Go.Ground.data }], guard := none }) (v := ?_) rfl (by kernel_rfl) (by kernel_rfl) (by kernel_rfl) (fun _ _ _ h => h) (Or.inl ⟨by rfl, ?_⟩) (by assumption) ?_
        rotate_left 1
        · intro w' hSw; (go_simp <;> (with_reducible rfl))
        (try simp only [Act.put, List.setIfInBounds_toArray, List.set_cons_zero, List.set_cons_succ])
        refine wpAnyH_take (i := 56) (oi := { dst := some 120, op := Go.Op.move (Go.Operand.tmp 119), type := 4, pos := "outright.go:65", after := #[{ on := 55, ground := Go.Ground.data }, { on := 48, ground := Go.Ground.chain }], guard := none }) (v := ?_) rfl (by kernel_rfl) (by kernel_rfl) (by kernel_rfl) (fun _ _ _ h => h) (Or.inl ⟨by rfl, ?_⟩) (by assumption) ?_
        rotate_left 1
        · intro w' hSw; (go_simp <;> (with_reducible rfl))
        (try simp only [Act.put, List.setIfInBounds_toArray, List.set_cons_zero, List.set_cons_succ])
        refine wpAnyH_take (i := 57) (oi := { dst := some 121, op := Go.Op.move (Go.Operand.tmp 11), type := 32, pos := "outright.go:65", after := #[{ on := 56, ground := Go.Ground.guard }], guard := some (56, true) }) (v := ?_) rfl (by kernel_rfl) (by kernel_rfl) (by kernel_rfl) (fun _ _ _ h => h) (Or.inl ⟨by rfl, ?_⟩) (by assumption) ?_
        rotate_left 1
        · intro w' hSw; (go_simp <;> (with_reducible rfl))
        (try simp only [Act.put, List.setIfInBounds_toArray, List.set_cons_zero, List.set_cons_succ])
        refine wpAnyH_take (i := 59) (oi := { dst := some 123, op := Go.Op.fieldAddr 26 (Go.Operand.tmp 3) 5, type := 0, pos := "outright.go:65", after := #[{ on := 56, ground := Go.Ground.guard }], guard := some (56, true) }) (v := ?_) rfl (by kernel_rfl) (by kernel_rfl) (by kernel_rfl) (fun _ _ _ h => h) (Or.inl ⟨by rfl, ?_⟩) (by assumption) ?_
        rotate_left 1
        · intro w' hSw; (go_simp <;> (with_reducible rfl))
        (try simp only [Act.put, List.setIfInBounds_toArray, List.set_cons_zero, List.set_cons_succ])
        refine wpAnyH_take (i := 60) (oi := { dst := some 124, op := Go.Op.load 23 (Go.Operand.tmp 123), type := 23, pos := "outright.go:65", after := #[{ on := 59, ground := Go.Ground.data }, { on := 56, ground := Go.Ground.guard }], guard := some (56, true) }) (v := ?_) rfl (by kernel_rfl) (by kernel_rfl) (by kernel_rfl) (fun _ _ _ h => h) (Or.inl ⟨by rfl, ?_⟩) (by assumption) ?_
        rotate_left 1
        · intro w' hSw; (go_simp <;> (with_reducible rfl))
        (try simp only [Act.put, List.setIfInBounds_toArray, List.set_cons_zero, List.set_cons_succ])
        refine wpAnyH_take (i := 61) (oi := { dst := some 125, op := Go.Op.fieldAddr 26 (Go.Operand.tmp 4) 5, type := 0, pos := "outright.go:65", after := #[{ on := 56, ground := Go.Ground.guard }], guard := some (56, true) }) (v := ?_) rfl (by kernel_rfl) (by kernel_rfl) (by kernel_rfl) (fun _ _ _ h => h) (Or.inl ⟨by rfl, ?_⟩) (by assumption) ?_
        rotate_left 1
        · intro w' hSw; (go_simp <;> (with_reducible rfl))
        (try simp only [Act.put, List.setIfInBounds_toArray, List.set_cons_zero, List.set_cons_succ])
        refine wpAnyH_take (i := 62) (oi := { dst := some 126, op := Go.Op.load 23 (Go.Operand.tmp 125), type := 23, pos := "outright.go:65", after := #[{ on := 61, ground := Go.Ground.data }, { on := 56, ground := Go.Ground.guard }], guard := some (56, true) }) (v := ?_) rfl (by kernel_rfl) (by kernel_rfl) (by kernel_rfl) (fun _ _ _ h => h) (Or.inl ⟨by rfl, ?_⟩) (by assumption) ?_
        rotate_left 1
        · intro w' hSw; (go_simp <;> (with_reducible rfl))
        (try simp only [Act.put, List.setIfInBounds_toArray, List.set_cons_zero, List.set_cons_succ])
        refine wpAnyH_take (i := 63) (oi := { dst := some 127, op := Go.Op.binOp Go.BinOp.eql 23 (Go.Operand.tmp 124) (Go.Operand.tmp 126) 23, type := 4, pos := "outright.go:65", after := #[{ on := 60, ground := Go.Ground.data }, { on := 62, ground := Go.Ground.data }, { on := 56, ground := Go.Ground.guard }], guard := some (56, true) }) (v := ?_) rfl (by kernel_rfl) (by kernel_rfl) (by kernel_rfl) (fun _ _ _ h => h) (Or.inl ⟨by rfl, ?_⟩) (by assumption) ?_
        rotate_left 1
        · intro w' hSw; (go_simp <;> (with_reducible rfl))
        (try simp only [Act.put, List.setIfInBounds_toArray, List.set_cons_zero, List.set_cons_succ])
        refine wpAnyH_ready (rs := [58]) (by kernel_rfl) (by simp) ?_
        refine AllReadyH.cons (o := { dst := some 122, op := Go.Op.call { callee := Go.Callee.value (Go.Operand.tmp 121), args := #[Go.Operand.const (Go.Value.int Go.IntKind.i64 12), Go.Operand.const (Go.Value.int Go.IntKind.i64 16)], argTypes := #[3, 3] }, type := 4, pos := "outright.go:65", after := #[{ on := 57, ground := Go.Ground.data }, { on := 56, ground := Go.Ground.chain }, { on := 56, ground := Go.Ground.guard }], guard := some (56, true) }) rfl (fun K hK => ?_) AllReadyH.nil
        go_simp
        (go_at_call 8; (with_reducible refine (same_at _ _ g g' c3 c4 m 12 16 12 16 L L' (src == src') _ rfl rfl (by omega) (by omega) hk3 hk4 HH.out.bp HH.out.bq HH.out.r1 HH.out.r2 HP.out.s12).mono ?_); rintro e w7 ⟨rfl, k7, hk7⟩; have HH := Lib.hid (Held.drewN_ HH.out hk7); clear hk7)
        refine hK.out _ _ ?_ (fun hHeld => ?_)
        · exact HH.out.cells
        clear hK K
        (try simp only [Act.put, List.setIfInBounds_toArray, List.set_cons_zero, List.set_cons_succ])
        refine wpAnyH_take (i := 64) (oi := { dst := some 128, op := Go.Op.binOp Go.BinOp.eql 4 (Go.Operand.tmp 122) (Go.Operand.tmp 127) 4, type := 4, pos := "outright.go:65", after := #[{ on := 58, ground := Go.Ground.data }, { on := 63, ground := Go.Ground.data }, { on := 56, ground := Go.Ground.guard }], guard := some (56, true) }) (v := ?_) rfl (by kernel_rfl) (by kernel_rfl) (by kernel_rfl) (fun _ _ _ h => h) (Or.inl ⟨by rfl, ?_⟩) (by assumption) ?_
        rotate_left 1
        · intro w' hSw; (go_simp <;> (with_reducible rfl))
        (try simp only [Act.put, List.setIfInBounds_toArray, List.set_cons_zero, List.set_cons_succ])
        refine wpAnyH_take (i := 65) (oi := { dst := some 129, op := Go.Op.pick (Go.Operand.tmp 120) (Go.Operand.tmp 128) (Go.Operand.const (Go.Value.bool false)), type := 4, pos := "outright.go:65", after := #[{ on := 56, ground := Go.Ground.data }, { on := 64, ground := Go.Ground.data }], guard := none }) (v := ?_) rfl (by kernel_rfl) (by kernel_rfl) (by kernel_rfl) (fun _ _ _ h => h) (Or.inl ⟨by rfl, ?_⟩) (by assumption) ?_
        rotate_left 1
        · intro w' hSw; (go_simp <;> (with_reducible rfl))
        (try simp only [Act.put, List.setIfInBounds_toArray, List.set_cons_zero, List.set_cons_succ])
        refine wpAnyH_take (i := 66) (oi := { dst := some 130, op := Go.Op.move (Go.Operand.tmp 129), type := 4, pos := "outright.go:65", after := #[{ on := 65, ground := Go.Ground.data }, { on := 58, ground := Go.Ground.chain }], guard := none }) (v := ?_) rfl (by kernel_rfl) (by kernel_rfl) (by kernel_rfl) (fun _ _ _ h => h) (Or.inl ⟨by rfl, ?_⟩) (by assumption) ?_
        rotate_left 1
        · intro w' hSw; (go_simp <;> (with_reducible rfl))
        (try simp only [Act.put, List.setIfInBounds_toArray, List.set_cons_zero, List.set_cons_succ])
        refine wpAnyH_take (i := 67) (oi := { dst := some 131, op := Go.Op.move (Go.Operand.tmp 11), type := 32, pos := "outright.go:65", after := #[{ on := 66, ground := Go.Ground.guard }], guard := some (66, true) }) (v := ?_) rfl (by kernel_rfl) (by kernel_rfl) (by kernel_rfl) (fun _ _ _ h => h) (Or.inl ⟨by rfl, ?_⟩) (by assumption) ?_
        rotate_left 1
        · intro w' hSw; (go_simp <;> (with_reducible rfl))
        (try simp only [Act.put, List.setIfInBounds_toArray, List.set_cons_zero, List.set_cons_succ])
        refine wpAnyH_take (i := 69) (oi := { dst := some 133, op := Go.Op.fieldAddr 26 (Go.Operand.tmp 3) 6, type := 0, pos := "outright.go:65", after := #[{ on := 66, ground := Go.Ground.guard }], guard := some (66, true) }) (v := ?_) rfl (by kernel_rfl) (by kernel_rfl) (by kernel_rfl) (fun _ _ _ h => h) (Or.inl ⟨by rfl, ?_⟩) (by assumption) ?_
        rotate_left 1
        · intro w' hSw; (go_simp <;> (with_reducible rfl))
        (try simp only [Act.put, List.setIfInBounds_toArray, List.set_cons_zero, List.set_cons_succ])
        refine wpAnyH_take (i := 70) (oi := { dst := some 134, op := Go.Op.load 23 (Go.Operand.tmp 133), type := 23, pos := "outright.go:65", after := #[{ on := 69, ground := Go.Ground.data }, { on := 66, ground := Go.Ground.guard }], guard := some (66, true) }) (v := ?_) rfl (by kernel_rfl) (by kernel_rfl) (by kernel_rfl) (fun _ _ _ h => h) (Or.inl ⟨by rfl, ?_⟩) (by assumption) ?_
        rotate_left 1
        · intro w' hSw; (go_simp <;> (with_reducible rfl))
        (try simp only [Act.put, List.setIfInBounds_toArray, List.set_cons_zero, List.set_cons_succ])
        refine wpAnyH_take (i := 71) (oi := { dst := some 135, op := Go.Op.fieldAddr 26 (Go.Operand.tmp 4) 6, type := 0, pos := "outright.go:65", after := #[{ on := 66, ground := Go.Ground.guard }], guard := some (66, true) }) (v := ?_) rfl (by kernel_rfl) (by kernel_rfl) (by kernel_rfl) (fun _ _ _ h => h) (Or.inl ⟨by rfl, ?_⟩) (by assumption) ?_
        rotate_left 1
        · intro w' hSw; (go_simp <;> (with_reducible rfl))
        (try simp only [Act.put, List.setIfInBounds_toArray, List.set_cons_zero, List.set_cons_succ])
        refine wpAnyH_take (i := 72) (oi := { dst := some 136, op := Go.Op.load 23 (Go.Operand.tmp 135), type := 23, pos := "outright.go:65", after := #[{ on := 71, ground := Go.Ground.data }, { on := 66, ground := Go.Ground.guard }], guard := some (66, true) }) (v := ?_) rfl (by kernel_rfl) (by kernel_rfl) (by kernel_rfl) (fun _ _ _ h => h) (Or.inl ⟨by rfl, ?_⟩) (by assumption) ?_
        rotate_left 1
        · intro w' hSw; (go_simp <;> (with_reducible rfl))
        (try simp only [Act.put, List.setIfInBounds_toArray, List.set_cons_zero, List.set_cons_succ])
        refine wpAnyH_take (i := 73) (oi := { dst := some 137, op := Go.Op.binOp Go.BinOp.eql 23 (Go.Operand.tmp 134) (Go.Operand.tmp 136) 23, type := 4, pos := "outright.go:65", after := #[{ on := 70, ground := Go.Ground.data }, { on := 72, ground := Go.Ground.data }, { on := 66, ground := Go.Ground.guard }], guard := some (66, true) }) (v := ?_) rfl (by kernel_rfl) (by kernel_rfl) (by kernel_rfl) (fun _ _ _ h => h) (Or.inl ⟨by rfl, ?_⟩) (by assumption) ?_
        rotate_left 1
        · intro w' hSw; (go_simp <;> (with_reducible rfl))
        (try simp only [Act.put, List.setIfInBounds_toArray, List.set_cons_zero, List.set_cons_succ])
        refine wpAnyH_ready (rs := [68]) (by kernel_rfl) (by simp) ?_
        refine AllReadyH.cons (o := { dst := some 132, op := Go.Op.call { callee := Go.Callee.value (Go.Operand.tmp 131), args := #[Go.Operand.const (Go.Value.int Go.IntKind.i64 16), Go.Operand.const (Go.Value.int Go.IntKind.i64 20)], argTypes := #[3, 3] }, type := 4, pos := "outright.go:65", after := #[{ on := 67, ground := Go.Ground.data }, { on := 66, ground := Go.Ground.chain }, { on := 66, ground := Go.Ground.guard }], guard := some (66, true) }) rfl (fun K hK => ?_) AllReadyH.nil
        go_simp
        (go_at_call 8; (with_reducible refine (same_at _ _ g g' c3 c4 m 16 20 16 20 L L' (dst == dst') _ rfl rfl (by omega) (by omega) hk3 hk4 HH.out.bp HH.out.bq HH.out.r1 HH.out.r2 HP.out.s16).mono ?_); rintro e w7 ⟨rfl, k7, hk7⟩; have HH := Lib.hid (Held.drewN_ HH.out hk7); clear hk7)
        refine hK.out _ _ ?_ (fun hHeld => ?_)
        · exact HH.out.cells
        clear hK K
        (try simp only [Act.put, List.setIfInBounds_toArray, List.set_cons_zero, List.set_cons_succ])
        refine wpAnyH_take (i := 74) (oi := { dst := some 138, op := Go.Op.binOp Go.BinOp.eql 4 (Go.Operand.tmp 132) (Go.Operand.tmp 137) 4, type := 4, pos := "outright.go:65", after := #[{ on := 68, ground := Go.Ground.data }, { on := 73, ground := Go.Ground.data }, { on := 66, ground := Go.Ground.guard }], guard := some (66, true) }) (v := ?_) rfl (by kernel_rfl) (by kernel_rfl) (by kernel_rfl) (fun _ _ _ h => h) (Or.inl ⟨by rfl, ?_⟩) (by assumption) ?_
        rotate_left 1
        · intro w' hSw; (go_simp <;> (with_reducible rfl))
        (try simp only [Act.put, List.setIfInBounds_toArray, List.set_cons_zero, List.set_cons_succ])
        refine wpAnyH_take (i := 75) (oi := { dst := some 139, op := Go.Op.pick (Go.Operand.tmp 130) (Go.Operand.tmp 138) (Go.Operand.const (Go.Value.bool false)), type := 4, pos := "outright.go:65", after := #[{ on := 66, ground := Go.Ground.data }, { on := 74, ground := Go.Ground.data }], guard := none }) (v := ?_) rfl (by kernel_rfl) (by kernel_rfl) (by kernel_rfl) (fun _ _ _ h => h) (Or.inl ⟨by rfl, ?_⟩) (by assumption) ?_
        rotate_left 1
        · intro w' hSw; (go_simp <;> (with_reducible rfl))
        (try simp only [Act.put, List.setIfInBounds_toArray, List.set_cons_zero, List.set_cons_succ])
        refine wpAnyH_take (i := 76) (oi := { dst := some 140, op := Go.Op.move (Go.Operand.tmp 139), type := 4, pos := "outright.go:65", after := #[{ on := 75, ground := Go.Ground.data }, { on := 68, ground := Go.Ground.chain }], guard := none }) (v := ?_) rfl (by kernel_rfl) (by kernel_rfl) (by kernel_rfl) (fun _ _ _ h => h) (Or.inl ⟨by rfl, ?_⟩) (by assumption) ?_
        rotate_left 1
        · intro w' hSw; (go_simp <;> (with_reducible rfl))
        (try simp only [Act.put, List.setIfInBounds_toArray, List.set_cons_zero, List.set_cons_succ])
        refine wpAnyH_take (i := 77) (oi := { dst := some 141, op := Go.Op.move (Go.Operand.tmp 11), type := 32, pos := "outright.go:65", after := #[{ on := 76, ground := Go.Ground.guard }], guard := some (76, true) }) (v := ?_) rfl (by kernel_rfl) (by kernel_rfl) (by kernel_rfl) (fun _ _ _ h => h) (Or.inl ⟨by rfl, ?_⟩) (by assumption) ?_
        rotate_left 1
        · intro w' hSw; (go_simp <;> (with_reducible rfl))
        (try simp only [Act.put, List.setIfInBounds_toArray, List.set_cons_zero, List.set_cons_succ])
        refine wpAnyH_take (i := 78) (oi := { dst := some 142, op := Go.Op.load 24 (Go.Operand.tmp 7), type := 24, pos := "outright.go:65", after := #[{ on := 76, ground := Go.Ground.guard }], guard := some (76, true) }) (v := ?_) rfl (by kernel_rfl) (by kernel_rfl) (by kernel_rfl) (fun _ _ _ h => h) (Or.inl ⟨by rfl, ?_⟩) (by assumption) ?_
        rotate_left 1
        · intro w' hSw; (go_simp <;> (with_reducible rfl))
        (try simp only [Act.put, List.setIfInBounds_toArray, List.set_cons_zero, List.set_cons_succ])
        refine wpAnyH_take (i := 79) (oi := { dst := some 143, op := Go.Op.call { callee := Go.Callee.builtin Go.Builtin.len, args := #[Go.Operand.tmp 142], argTypes := #[24] }, type := 3, pos := "outright.go:65", after := #[{ on := 78, ground := Go.Ground.data }, { on := 76, ground := Go.Ground.guard }], guard := some (76, true) }) (v := ?_) rfl (by kernel_rfl) (by kernel_rfl) (by kernel_rfl) (fun _ _ _ h => h) (Or.inl ⟨by rfl, ?_⟩) (by assumption) ?_
        rotate_left 1
        · intro w' hSw; (go_simp <;> (with_reducible rfl))
        (try simp only [Act.put, List.setIfInBounds_toArray, List.set_cons_zero, List.set_cons_succ])
        refine wpAnyH_ready (rs := [80]) (by kernel_rfl) (by simp) ?_
        refine AllReadyH.cons (o := { dst := some 144, op := Go.Op.call { callee := Go.Callee.value (Go.Operand.tmp 141), args := #[Go.Operand.const (Go.Value.int Go.IntKind.i64 20), Go.Operand.tmp 143], argTypes := #[3, 3] }, type := 4, pos := "outright.go:65", after := #[{ on := 77, ground := Go.Ground.data }, { on := 79, ground := Go.Ground.data }, { on := 76, ground := Go.Ground.chain }, { on := 76, ground := Go.Ground.guard }], guard := some (76, true) }) rfl (fun K hK => ?_) AllReadyH.nil
        go_simp
        (go_at_call 8; (with_reducible refine (H20.out _ HH.out.bp HH.out.bq HH.out.r1 HH.out.r2).mono ?_); rintro e w7 ⟨rfl, k7, hk7⟩; have HH := Lib.hid (Held.drewN_ HH.out hk7); clear hk7)
        refine hK.out _ _ ?_ (fun hHeld => ?_)
        · exact HH.out.cells
        clear hK K
        (try simp only [Act.put, List.setIfInBounds_toArray, List.set_cons_zero, List.set_cons_succ])
        refine wpAnyH_take (i := 81) (oi := { dst := some 145, op := Go.Op.pick (Go.Operand.tmp 140) (Go.Operand.tmp 144) (Go.Operand.const (Go.Value.bool false)), type := 4, pos := "outright.go:65", after := #[{ on := 76, ground := Go.Ground.data }, { on := 80, ground := Go.Ground.data }], guard := none }) (v := ?_) rfl (by kernel_rfl) (by kernel_rfl) (by kernel_rfl) (fun _ _ _ h => h) (Or.inl ⟨by rfl, ?_⟩) (by assumption) ?_
        rotate_left 1
        · intro w' hSw; (go_simp <;> (with_reducible rfl))
        (try simp only [Act.put, List.setIfInBounds_toArray, List.set_cons_zero, List.set_cons_succ])
        refine wpAnyH_take (i := 82) (oi := { dst := some 146, op := Go.Op.move (Go.Operand.tmp 145), type := 4, pos := "outright.go:65", after := #[{ on := 81, ground := Go.Ground.data }, { on := 80, ground := Go.Ground.chain }], guard := none }) (v := ?_) rfl (by kernel_rfl) (by kernel_rfl) (by kernel_rfl) (fun _ _ _ h => h) (Or.inl ⟨by rfl, ?_⟩) (by assumption) ?_
        rotate_left 1
        · intro w' hSw; (go_simp <;> (with_reducible rfl))
        (try simp only [Act.put, List.setIfInBounds_toArray, List.set_cons_zero, List.set_cons_succ])
        refine wpAnyH_ready (rs := [83]) (by kernel_rfl) (by simp) ?_
        refine AllReadyH.cons (o := { dst := some 147, op := Go.Op.call { callee := Go.Callee.value (Go.Operand.func 7), args := #[], argTypes := #[] }, type := 4, pos := "outright.go:65", after := #[{ on := 82, ground := Go.Ground.chain }, { on := 82, ground := Go.Ground.guard }], guard := some (82, true) }) rfl (fun K hK => ?_) AllReadyH.nil
        go_simp
        (go_at_call 7; refine (ip_wakes _).mono ?_; rintro e w8 ⟨rfl, hb8⟩; have HH := Lib.hid (HH.out.on hb8); clear hb8)
        refine hK.out _ _ ?_ (fun hHeld => ?_)
        · exact HH.out.cells
        clear hK K
        (try simp only [Act.put, List.setIfInBounds_toArray, List.set_cons_zero, List.set_cons_succ])
        refine wpAnyH_take (i := 84) (oi := { dst := some 148, op := Go.Op.pick (Go.Operand.tmp 146) (Go.Operand.tmp 147) (Go.Operand.const (Go.Value.bool false)), type := 4, pos := "outright.go:65", after := #[{ on := 82, ground := Go.Ground.data }, { on := 83, ground := Go.Ground.data }], guard := none }) (v := ?_) rfl (by kernel_rfl) (by kernel_rfl) (by kernel_rfl) (fun _ _ _ h => h) (Or.inl ⟨by rfl, ?_⟩) (by assumption) ?_
        rotate_left 1
        · intro w' hSw; (go_simp <;> (with_reducible rfl))
        (try simp only [Act.put, List.setIfInBounds_toArray, List.set_cons_zero, List.set_cons_succ])
        refine wpAnyH_take (i := 85) (oi := { dst := some 6, op := Go.Op.assign (Go.Operand.tmp 148), type := 4, pos := "outright.go:65", after := ([{ on := 84, ground := Go.Ground.data }, { on := 83, ground := Go.Ground.chain }, { on := 0, ground := Go.Ground.phase }, { on := 1, ground := Go.Ground.phase }, { on := 2, ground := Go.Ground.phase }, { on := 3, ground := Go.Ground.phase }, { on := 4, ground := Go.Ground.phase }, { on := 5, ground := Go.Ground.phase }, { on := 6, ground := Go.Ground.phase }, { on := 7, ground := Go.Ground.phase }, { on := 8, ground := Go.Ground.phase }, { on := 9, ground := Go.Ground.phase }, { on := 10, ground := Go.Ground.phase }, { on := 11, ground := Go.Ground.phase }, { on := 12, ground := Go.Ground.phase }, { on := 13, ground := Go.Ground.phase }, { on := 14, ground := Go.Ground.phase }, { on := 15, ground := Go.Ground.phase }, { on := 16, ground := Go.Ground.phase }, { on := 17, ground := Go.Ground.phase }, { on := 18, ground := Go.Ground.phase }, { on := 19, ground := Go.Ground.phase }, { on := 20, ground := Go.Ground.phase }, { on := 21, ground := Go.Ground.phase }, { on := 22, ground := Go.Ground.phase }, { on := 23, ground := Go.Ground.phase }, { on := 24, ground := Go.Ground.phase }, { on := 25, ground := Go.Ground.phase }, { on := 26, ground := Go.Ground.phase }, { on := 27, ground := Go.Ground.phase }, { on := 28, ground := Go.Ground.phase }, { on := 29, ground := Go.Ground.phase }, { on := 30, ground := Go.Ground.phase }, { on := 31, ground := Go.Ground.phase }, { on := 32, ground := Go.Ground.phase }, { on := 33, ground := Go.Ground.phase }, { on := 34, ground := Go.Ground.phase }, { on := 35, ground := Go.Ground.phase }, { on := 36, ground := Go.Ground.phase }, { on := 37, ground := Go.Ground.phase }, { on := 38, ground := Go.Ground.phase }, { on := 39, ground := Go.Ground.phase }, { on := 40, ground := Go.Ground.phase }].append [{ on := 41, ground := Go.Ground.phase }, { on := 42, ground := Go.Ground.phase }, { on := 43, ground := Go.Ground.phase }, { on := 44, ground := Go.Ground.phase }, { on := 45, ground := Go.Ground.phase }, { on := 46, ground := Go.Ground.phase }, { on := 47, ground := Go.Ground.phase }, { on := 48, ground := Go.Ground.phase }, { on := 49, ground := Go.Ground.phase }, { on := 50, ground := Go.Ground.phase }, { on := 51, ground := Go.Ground.phase }, { on := 52, ground := Go.Ground.phase }, { on := 53, ground := Go.Ground.phase }, { on := 54, ground := Go.Ground.phase }, { on := 55, ground := Go.Ground.phase }, { on := 56, ground := Go.Ground.phase }, { on := 57, ground := Go.Ground.phase }, { on := 58, ground := Go.Ground.phase }, { on := 59, ground := Go.Ground.phase }, { on := 60, ground := Go.Ground.phase }, { on := 61, ground := Go.Ground.phase }, { on := 62, ground := Go.Ground.phase }, { on := 63, ground := Go.Ground.phase }, { on := 64, ground := Go.Ground.phase }, { on := 65, ground := Go.Ground.phase }, { on := 66, ground := Go.Ground.phase }, { on := 67, ground := Go.Ground.phase }, { on := 68, ground := Go.Ground.phase }, { on := 69, ground := Go.Ground.phase }, { on := 70, ground := Go.Ground.phase }, { on := 71, ground := Go.Ground.phase }, { on := 72, ground := Go.Ground.phase }, { on := 73, ground := Go.Ground.phase }, { on := 74, ground := Go.Ground.phase }, { on := 75, ground := Go.Ground.phase }, { on := 76, ground := Go.Ground.phase }, { on := 77, ground := Go.Ground.phase }, { on := 78, ground := Go.Ground.phase }, { on := 79, ground := Go.Ground.phase }, { on := 80, ground := Go.Ground.phase }, { on := 81, ground := Go.Ground.phase }, { on := 82, ground := Go.Ground.phase }, { on := 83, ground := Go.Ground.phase }, { on := 84, ground := Go.Ground.phase }]).toArray, guard := none }) (v := ?_) rfl (by kernel_rfl) (by kernel_rfl) (by kernel_rfl) (fun _ _ _ h => h) (Or.inl ⟨by rfl, ?_⟩) (by assumption) ?_
        rotate_left 1
        · intro w' hSw; (go_simp <;> (with_reducible rfl))
        (try simp only [Act.put, List.setIfInBounds_toArray, List.set_cons_zero, List.set_cons_succ])
        refine wpAnyH_done (by kernel_rfl) ?_ _
        go_wp2_with fail
        go_ret
        exact ⟨rfl, HH.out.old⟩
      · have hmf' : mayB ttl' n = false := by simpa using hm'
        have HB := Lib.hid (((Below.refl w.heap.size w).alloc (Nat.le_refl _) (.cells #[.int .u8 tos, .int .u16 id_, .bool df, .int .u8 ttl, .int .u8 proto, .int .u32 src, .int .u32 dst, .slice A n c] 26)).alloc (by simp) (.cells #[.int .u8 tos', .int .u16 id', .bool df', .int .u8 ttl', .int .u8 proto', .int .u32 src', .int .u32 dst', .slice A n c] 26))
        have HH1 := Lib.hid (show ((w.alloc (.cells #[.int .u8 tos, .int .u16 id_, .bool df, .int .u8 ttl, .int .u8 proto, .int .u32 src, .int .u32 dst, .slice A n c] 26)).alloc (.cells #[.int .u8 tos', .int .u16 id', .bool df', .int .u8 ttl', .int .u8 proto', .int .u32 src', .int .u32 dst', .slice A n c] 26)).heap[w.heap.size]? = some (.cells #[.int .u8 tos, .int .u16 id_, .bool df, .int .u8 ttl, .int .u8 proto, .int .u32 src, .int .u32 dst, .slice A n c] 26 (0, 0)) by rw [Below.heap_alloc _ _ _ (by simp)]; exact heap_alloc_new w _)
        have HK1 := Lib.hid (show ((w.alloc (.cells #[.int .u8 tos, .int .u16 id_, .bool df, .int .u8 ttl, .int .u8 proto, .int .u32 src, .int .u32 dst, .slice A n c] 26)).alloc (.cells #[.int .u8 tos', .int .u16 id', .bool df', .int .u8 ttl', .int .u8 proto', .int .u32 src', .int .u32 dst', .slice A n c] 26)).heap[w.heap.size + 1]? = some (.cells #[.int .u8 tos', .int .u16 id', .bool df', .int .u8 ttl', .int .u8 proto', .int .u32 src', .int .u32 dst', .slice A n c] 26 (0, 0)) by have := heap_alloc_new (w.alloc (.cells #[.int .u8 tos, .int .u16 id_, .bool df, .int .u8 ttl, .int .u8 proto, .int .u32 src, .int .u32 dst, .slice A n c] 26)) (.cells #[.int .u8 tos', .int .u16 id', .bool df', .int .u8 ttl', .int .u8 proto', .int .u32 src', .int .u32 dst', .slice A n c] 26); simpa using this)
        have Hmf := Lib.hid hmf
        clear hmf
        go_enter Try.func3, Try.ntmps3
        go_wp2_with fail
        obtain ⟨w1, hw1⟩ : ∃ w1, w1 = ((w.alloc (.cells #[.int .u8 tos, .int .u16 id_, .bool df, .int .u8 ttl, .int .u8 proto, .int .u32 src, .int .u32 dst, .slice A n c] 26)).alloc (.cells #[.int .u8 tos', .int .u16 id', .bool df', .int .u8 ttl', .int .u8 proto', .int .u32 src', .int .u32 dst', .slice A n c] 26)) := ⟨_, rfl⟩
        rw [← hw1] at HB HH1 HK1 ⊢
        have hsz1 : w1.heap.size = w.heap.size + 1 + 1 := by rw [hw1]; simp
        clear hw1
        have Hr := Lib.hid (hr.below HB.out)
        have Hp := Lib.hid (hp.below HB.out)
        refine (put_ok tos id_ ttl proto src dst df A A2 n c n2 c2 opts payload _ h0 h1 h2 h3 h4 h5 hm hn hc hc2' (by omega) Hr.out Hp.out).mono ?_
        rw [← Em.out]
        rintro e w2 ⟨A3, c3, rfl, hk3, hm3, ho3, hb⟩
        have hbb := below_trans hb (Below.alloc (Below.refl w2.heap.size w2) (Nat.le_refl _) (.cells #[.slice A3 m c3] 24))
        have HB := Lib.hid (below_trans HB.out hbb)
        have HH1 := Lib.hid (blk_on HH1.out hbb)
        have HK1 := Lib.hid (blk_on HK1.out hbb)
        have Hr := Lib.hid (Hr.out.below hbb)
        have Hp := Lib.hid (Hp.out.below hbb)
        have r0 := blk_cell (HK1.out) 0
        have r1 := blk_cell (HK1.out) 1
        have r2 := blk_cell (HK1.out) 2
        have r3 := blk_cell (HK1.out) 3
        have r4 := blk_cell (HK1.out) 4
        have r5 := blk_cell (HK1.out) 5
        have r6 := blk_cell (HK1.out) 6
        have r7 := blk_cell (HK1.out) 7
        simp at r0 r1 r2 r3 r4 r5 r6 r7
        have Ho3 := Lib.hid (ho3.alloc (.cells #[.slice A3 m c3] 24))
        have HB3 := Lib.hid (heap_alloc_new w2 (.cells #[.slice A3 m c3] 24))
        have hg3 := ho3.addr (by omega)
        clear hb hbb ho3
        go_wp2_with fail
        clear r0 r1 r2 r3 r4 r5 r6 r7
        refine (put_arg tos' id' ttl' proto' src' dst' df' A A2 n c n2 c2 _ hmf').mono ?_
        rintro e w4 ⟨rfl, hb⟩
        have hbb := below_trans hb (Below.alloc (Below.refl w4.heap.size w4) (Nat.le_refl _) (.cells #[.slice none 0 0] 24))
        have HB := Lib.hid (below_trans HB.out hbb)
        have HH1 := Lib.hid (blk_on HH1.out hbb)
        have HK1 := Lib.hid (blk_on HK1.out hbb)
        have Hr := Lib.hid (Hr.out.below hbb)
        have Hp := Lib.hid (Hp.out.below hbb)
        have r0 := blk_cell (HH1.out) 0
        have r1 := blk_cell (HH1.out) 1
        have r2 := blk_cell (HH1.out) 2
        have r3 := blk_cell (HH1.out) 3
        have r4 := blk_cell (HH1.out) 4
        have r5 := blk_cell (HH1.out) 5
        have r6 := blk_cell (HH1.out) 6
        have r7 := blk_cell (HH1.out) 7
        simp at r0 r1 r2 r3 r4 r5 r6 r7
        clear hb hbb
        go_wp2_with fail
        clear r0 r1 r2 r3 r4 r5 r6 r7
        refine (may_any tos id_ ttl proto src dst df A n c _).mono ?_
        rw [hm]
        rintro e w6 ⟨rfl, hb⟩
        have HB := Lib.hid (below_trans HB.out hb)
        have HH1 := Lib.hid (blk_on HH1.out hb)
        have HK1 := Lib.hid (blk_on HK1.out hb)
        have Hr := Lib.hid (Hr.out.below hb)
        have Hp := Lib.hid (Hp.out.below hb)
        have r7 := blk_cell HH1.out 7
        simp at r7
        clear hb
        go_wp2_with fail
        refine (ip_wakes _).mono ?_
        rintro e w8 ⟨rfl, hb⟩
        have HB := Lib.hid (below_trans HB.out hb)
        clear hb
        go_wp2_with fail
        go_ret
        exact ⟨rfl, HB.out⟩
  · have hmf' : mayB ttl n = false := by simpa using hm
    have HB := Lib.hid (((Below.refl w.heap.size w).alloc (Nat.le_refl _) (.cells #[.int .u8 tos, .int .u16 id_, .bool df, .int .u8 ttl, .int .u8 proto, .int .u32 src, .int .u32 dst, .slice A n c] 26)).alloc (by simp) (.cells #[.int .u8 tos', .int .u16 id', .bool df', .int .u8 ttl', .int .u8 proto', .int .u32 src', .int .u32 dst', .slice A n c] 26))
    have HH1 := Lib.hid (show ((w.alloc (.cells #[.int .u8 tos, .int .u16 id_, .bool df, .int .u8 ttl, .int .u8 proto, .int .u32 src, .int .u32 dst, .slice A n c] 26)).alloc (.cells #[.int .u8 tos', .int .u16 id', .bool df', .int .u8 ttl', .int .u8 proto', .int .u32 src', .int .u32 dst', .slice A n c] 26)).heap[w.heap.size]? = some (.cells #[.int .u8 tos, .int .u16 id_, .bool df, .int .u8 ttl, .int .u8 proto, .int .u32 src, .int .u32 dst, .slice A n c] 26 (0, 0)) by rw [Below.heap_alloc _ _ _ (by simp)]; exact heap_alloc_new w _)
    have HK1 := Lib.hid (show ((w.alloc (.cells #[.int .u8 tos, .int .u16 id_, .bool df, .int .u8 ttl, .int .u8 proto, .int .u32 src, .int .u32 dst, .slice A n c] 26)).alloc (.cells #[.int .u8 tos', .int .u16 id', .bool df', .int .u8 ttl', .int .u8 proto', .int .u32 src', .int .u32 dst', .slice A n c] 26)).heap[w.heap.size + 1]? = some (.cells #[.int .u8 tos', .int .u16 id', .bool df', .int .u8 ttl', .int .u8 proto', .int .u32 src', .int .u32 dst', .slice A n c] 26 (0, 0)) by have := heap_alloc_new (w.alloc (.cells #[.int .u8 tos, .int .u16 id_, .bool df, .int .u8 ttl, .int .u8 proto, .int .u32 src, .int .u32 dst, .slice A n c] 26)) (.cells #[.int .u8 tos', .int .u16 id', .bool df', .int .u8 ttl', .int .u8 proto', .int .u32 src', .int .u32 dst', .slice A n c] 26); simpa using this)
    have Hmf := Lib.hid hmf
    clear hmf
    go_enter Try.func3, Try.ntmps3
    go_wp2_with fail
    obtain ⟨w1, hw1⟩ : ∃ w1, w1 = ((w.alloc (.cells #[.int .u8 tos, .int .u16 id_, .bool df, .int .u8 ttl, .int .u8 proto, .int .u32 src, .int .u32 dst, .slice A n c] 26)).alloc (.cells #[.int .u8 tos', .int .u16 id', .bool df', .int .u8 ttl', .int .u8 proto', .int .u32 src', .int .u32 dst', .slice A n c] 26)) := ⟨_, rfl⟩
    rw [← hw1] at HB HH1 HK1 ⊢
    have hsz1 : w1.heap.size = w.heap.size + 1 + 1 := by rw [hw1]; simp
    clear hw1
    have Hr := Lib.hid (hr.below HB.out)
    have Hp := Lib.hid (hp.below HB.out)
    refine (put_arg tos id_ ttl proto src dst df A A2 n c n2 c2 _ hmf').mono ?_
    rintro e w2 ⟨rfl, hb⟩
    have hbb := below_trans hb (Below.alloc (Below.refl w2.heap.size w2) (Nat.le_refl _) (.cells #[.slice none 0 0] 24))
    have HB := Lib.hid (below_trans HB.out hbb)
    have HH1 := Lib.hid (blk_on HH1.out hbb)
    have HK1 := Lib.hid (blk_on HK1.out hbb)
    have Hr := Lib.hid (Hr.out.below hbb)
    have Hp := Lib.hid (Hp.out.below hbb)
    have r0 := blk_cell (HK1.out) 0
    have r1 := blk_cell (HK1.out) 1
    have r2 := blk_cell (HK1.out) 2
    have r3 := blk_cell (HK1.out) 3
    have r4 := blk_cell (HK1.out) 4
    have r5 := blk_cell (HK1.out) 5
    have r6 := blk_cell (HK1.out) 6
    have r7 := blk_cell (HK1.out) 7
    simp at r0 r1 r2 r3 r4 r5 r6 r7
    clear hb hbb
    go_wp2_with fail
    clear r0 r1 r2 r3 r4 r5 r6 r7
    (with_reducible refine (put_some tos' id' ttl' proto' src' dst' df' A A2 n c n2 c2 opts payload _ h0' h1' h2' h3' h4' h5' hc hc2' hn2 Hr.out Hp.out).mono ?_)
    rintro e w4 ⟨A4, m4, c4, x4, rfl, hb⟩
    have hbb := below_trans hb (Below.alloc (Below.refl w4.heap.size w4) (Nat.le_refl _) (.cells #[.slice A4 m4 c4] 24))
    have HB := Lib.hid (below_trans HB.out hbb)
    have HH1 := Lib.hid (blk_on HH1.out hbb)
    have HK1 := Lib.hid (blk_on HK1.out hbb)
    have Hr := Lib.hid (Hr.out.below hbb)
    have Hp := Lib.hid (Hp.out.below hbb)
    have r0 := blk_cell (HH1.out) 0
    have r1 := blk_cell (HH1.out) 1
    have r2 := blk_cell (HH1.out) 2
    have r3 := blk_cell (HH1.out) 3
    have r4 := blk_cell (HH1.out) 4
    have r5 := blk_cell (HH1.out) 5
    have r6 := blk_cell (HH1.out) 6
    have r7 := blk_cell (HH1.out) 7
    simp at r0 r1 r2 r3 r4 r5 r6 r7
    clear hb hbb
    go_wp2_with fail
    clear r0 r1 r2 r3 r4 r5 r6 r7
    refine (may_any tos id_ ttl proto src dst df A n c _).mono ?_
    rw [hmf']
    rintro e w6 ⟨rfl, hb⟩
    have HB := Lib.hid (below_trans HB.out hb)
    have HH1 := Lib.hid (blk_on HH1.out hb)
    have HK1 := Lib.hid (blk_on HK1.out hb)
    have Hr := Lib.hid (Hr.out.below hb)
    have Hp := Lib.hid (Hp.out.below hb)
    have r7 := blk_cell HH1.out 7
    simp at r7
    clear hb
    go_wp2_with fail
    refine (ip_wakes _).mono ?_
    rintro e w8 ⟨rfl, hb⟩
    have HB := Lib.hid (below_trans HB.out hb)
    clear hb
    go_wp2_with fail
    go_ret
    exact ⟨rfl, HB.out⟩

theorem own : ownKnob Try.prog.godebug = none := by kernel_rfl
theorem laidOut : laidOutB Try.prog = true := by kernel_rfl

set_option maxRecDepth 100000 in
theorem lifted (os : Os) (started : os.Started) (H : Type) (enc : TypeId × Value → H) :
    ReturnsInHanded {} Try.checked os 3 .any (Rows.ipv4FieldsSpec.pre6 enc Try.prog Try.f3 Rows.ipv4FieldsRow.domain false) (Rows.ipv4FieldsSpec.post enc Try.prog Try.f3 false true false false) := by
  refine returnsInHanded_of_change_sized (C := Try.checked) own started (by kernel_rfl) Try.func3
    (ChangeSpec.witness6 (enc := enc) (C := Try.checked) false ⟨#[], #[(.agg #[.int .u8 0, .int .u16 0, .bool false, .int .u8 0, .int .u8 0, .int .u32 0, .int .u32 0, .slice none 0 0]), (.agg #[.int .u8 0, .int .u16 0, .bool false, .int .u8 0, .int .u8 0, .int .u32 0, .int .u32 0, .slice none 0 0]), (.slice none 0 0)], []⟩ 8 (by kernel_rfl) (by kernel_rfl) (by kernel_rfl) (by kernel_rfl)) ?_
  intro W base args ds gs before hval0 hW hcnd hsz0 _
  have hsz : (DataW.weightsEach Try.prog (Try.f3.params.toList ++ Rows.ipv4FieldsSpec.plain.varTypes Try.prog) (ds ++ gs)).all (· ≤ reachBytes) = true := hsz0
  have hval : ∀ (j : Nat) t v, Try.f3.params[j]? = some t → args[j]? = some v → Value.okWide Try.prog W .any base t v := hval0
  have hW' := hW
  obtain ⟨p, q, hA0, hV, rfl, hfz, hnd⟩ := hW
  have hA : DataW.TrodAll enc Try.prog W 0 (fun _ => true) true Try.f3.params.toList args.toList ds p := hA0
  rw [Try.params3] at hA hval hsz
  obtain ⟨v0, vs0, d0, ds0, p0, q0, hargs, rfl, rfl, h0, r0⟩ := trodAll_cons hA
  obtain ⟨v1, vs1, d1, ds1, p1, q1, rfl, rfl, rfl, h1, r1⟩ := trodAll_cons r0
  obtain ⟨v2, vs2, d2, ds2, p2, q2, rfl, rfl, rfl, h2, r2⟩ := trodAll_cons r1
  obtain ⟨rfl, rfl, rfl⟩ := trodAll_nil r2
  obtain rfl : args = #[v0, v1, v2] := by cases args; simp_all
  obtain ⟨rfl, rfl⟩ := trodVars_none hV
  have k0 := head_open (hval 0 26 v0 rfl rfl) h0
  have lt0 : ∀ x ∈ p0, x.block < W.heap.size := by obtain ⟨m, hm⟩ := h0; exact DataW.trod_lt m _ _ _ hm
  have k1 := head_open (hval 1 26 v1 rfl rfl) h1
  have lt1 : ∀ x ∈ p1, x.block < W.heap.size := by obtain ⟨m, hm⟩ := h1; exact DataW.trod_lt m _ _ _ hm
  have k2 := bytes_open (hval 2 24 v2 rfl rfl) h2 (fun elems spare e => by subst e; exact sized_slice hsz (j := 2) (t := 24) (e := 5) rfl rfl Try.underlying24)
  have lt2 : ∀ x ∈ p2, x.block < W.heap.size := by obtain ⟨m, hm⟩ := h2; exact DataW.trod_lt m _ _ _ hm
  clear hA0 hval0
  refine (walk W v0 k0 v1 k1 v2 k2).mono fun e W' ⟨he, bel⟩ => ?_
  subst he
  exact ⟨_, rfl, _, _, _, [], _, [], hW', trodAll_mk1 (shut_bool Try.underlying4 _), (trodAll_cons_mk (Below.trod laidOut (by kernel_rfl) (of_decide_eq_true (by kernel_rfl)) h0 bel lt0) (trodAll_cons_mk (Below.trod laidOut (by kernel_rfl) (of_decide_eq_true (by kernel_rfl)) h1 bel lt1) (trodAll_cons_mk (Below.trod laidOut (by kernel_rfl) (of_decide_eq_true (by kernel_rfl)) h2 bel lt2) trodAll_mk0))), rfl, bel.frame _, fun h => by cases h⟩

theorem over : Rows.ipv4FieldsRow.holds Try.pinned (OpenSpec.ofChange Rows.ipv4FieldsSpec) :=
  OpenClaim.holds_of_wide 3 Try.f3 rfl rfl rfl rfl rfl rfl rfl ⟨rfl, rfl, rfl, rfl, rfl⟩ rfl rfl rfl rfl rfl (by kernel_rfl) Try.func3 (by kernel_rfl)
    (of_decide_eq_true (by kernel_rfl)) (by unfold Func.isWrapper; first | (rw [if_pos (by decide +kernel)]; kernel_rfl) | (rw [if_neg (by decide +kernel)]; exact ⟨rfl, rfl⟩))
    (fun os started H enc _ => lifted os started H enc)

/-- The statement. -/
theorem proved : Rows.Ipv4FieldsSaid := over
#print axioms proved
end Go.Proofs.Ytechknoagcjoeaa.ipv4Fields
