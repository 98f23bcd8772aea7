/-
  A buffer of the program's: New, Write, Acked, Copy.
-/
import Derived.Test.YtncbkgcblmohoaaRxCutP
namespace Go.Proofs.Ytncbkgcblmohoaa
set_option maxRecDepth 10000
open Go.RowKit
set_option linter.unusedSimpArgs false
set_option linter.unusedVariables false

theorem rd_src {w : World} {A : Option Addr} {n : Nat} {l : List Int} (h : Rd w A n l) (c : Nat) : Src Try.prog 1 37 (.slice A n c) n (l.map (Value.int .u8)) w := by
  have hl := h.len
  cases A with
  | none =>
    have h0 : n = 0 := by
      rcases Nat.eq_zero_or_pos n with h0 | h0
      · exact h0
      · obtain ⟨b, o, e, _⟩ := h.at_ h0
        cases e
    subst h0
    have : l = [] := List.eq_nil_of_length_eq_zero hl
    subst this
    exact Src.ofNil w Try.underlying37 c
  | some a =>
    refine Src.ofSlice w Try.underlying37 a n c _ (by rw [List.length_map]; omega) (fun j u hj => ?_) (one_bytes l)
    have hjl : j < l.length := by
      have := (List.getElem?_eq_some_iff.1 hj).1
      simpa using this
    obtain ⟨b, o, e, _, hc⟩ := h.at_ (by omega)
    injection e with e
    subst e
    rw [Go.WideShapes.add_plain, hc j (by omega)]
    simp [List.getElem?_eq_getElem hjl] at hj
    simp [List.getD, List.getElem?_eq_getElem hjl, hj]
section
variable {w w' : World} {S T : Nat → Prop} {g c : Nat} {A : Option Addr} {s : XS} {wt ct al : Int}
/-- Bytes more: the append's run, and what is there behind its store. -/
theorem XMem.app (h : XMem w S g A c s wt ct al) (AD : Option Addr) (nD cD : Nat) (ld : List Int) (hd : Rd w AD nD ld) (hl : s.bs.length + nD ≤ 16384) (hon : s.bs ++ ld ≠ [] → wt = s.wait ∧ ct = s.count ∧ al = s.alarm) (n : Nat) (hn : s.bs.length = n) :
    ∃ A2 c2 w2, (Builtin.append_ #[37, 37] 37 #[.slice A n c, .slice AD nD cD]).run Try.prog w = .ok (.slice A2 (n + nD) c2) w2 ∧ w2.cell? ⟨g, 2, none⟩ = some (.slice A n c) ∧ w2.frozen? ⟨g, 2, none⟩ = false ∧
      ∃ S', XMem (w2.setCell ⟨g, 2, none⟩ (.slice A2 (n + nD) c2)) S' g A2 c2 (layX ld s) wt ct al ∧ But S w (w2.setCell ⟨g, 2, none⟩ (.slice A2 (n + nD) c2)) ∧ ∀ k, S' k → S k ∨ w.heap.size ≤ k := by
  subst hn
  have hdl := hd.len
  obtain ⟨A2, c2, w2, hrun, hs2, hb2, ho2, -⟩ := sv_app_src (P := Try.prog) w 37 37 5 (.int .u8 0) 1 1 Try.underlying37 info5 (by omega) rfl _ _ s.bs.length nD _ _ h.sl (rd_src hd cD) (by omega)
  have hbx2 := hb2.blk h.box (fun e => h.off g e rfl)
  have hng : ¬ (Value.slice A2 (s.bs.length + nD) c2).ownBlock = some g := by
    rcases ho2 with e | e
    · rw [e]; exact fun e => h.off g e rfl
    · rw [e]
      intro e2
      injection e2 with e2
      have := h.lt g h.sg
      omega
  have hB3 : But (fun k => k = g) w2 (w2.setCell ⟨g, 2, none⟩ (.slice A2 (s.bs.length + nD) c2)) := (But.refl (fun k => k = g) w2).setCell (p := ⟨g, 2, none⟩) rfl _
  have hok := h.ok
  have hlen : (layX ld s).bs.length = s.bs.length + nD := by show (s.bs ++ ld).length = _; rw [List.length_append, hdl]
  have hS2 : ∀ k, S k → k < w2.heap.size := fun k hk => hb2.lt (h.lt k hk)
  refine ⟨A2, c2, w2, hrun, by rw [blk_cell hbx2]; rfl, blk_free hbx2 2, fun k => S k ∨ (Value.slice A2 (s.bs.length + nD) c2).ownBlock = some k, ⟨?_, ?_, ?_, ?_, hon, .inl h.sg, ?_⟩, ?_, ?_⟩
  · rw [hlen]
    exact heap_setCell_at hbx2 2 _
  · rw [hlen]
    have h5 := hs2.but hB3 (fun b hb e => hng (by rw [← show b = g from e]; exact hb))
    rw [← List.map_append] at h5
    exact h5
  · rw [hlen]
    exact fun b hb => .inr hb
  · exact ⟨hok.una, fun x hx => by
      rcases List.mem_append.1 hx with h8 | h8
      · exact hok.byte x h8
      · exact hd.byte x h8, by rw [hlen]; exact hl, by rw [hlen]; have := hok.sent; show s.sent ≤ _; omega, hok.win, hok.rto, hok.tries, hok.count, hok.wait, hok.alarm⟩
  · intro k hk
    refine hB3.lt ?_
    rcases hk with hk | hk
    · exact hS2 k hk
    · exact hs2.lt hk
  · exact (hb2.mono (fun k _ hk => h.own k hk)).trans (hB3.mono (fun k _ hk => by rw [show k = g from hk]; exact h.sg))
  · intro k hk
    rcases hk with hk | hk
    · exact .inl hk
    · rcases ho2 with e | e
      · exact .inl (h.own k (by rw [← e]; exact hk))
      · rw [e] at hk
        injection hk with hk
        exact .inr (by omega)
end
theorem new_badX (at_ win rto tries : Int) (w : World) (h : badX win rto tries) :
    Calls Try.prog 9 #[.int .u32 at_, .int .u32 win, .int .u64 rto, .int .i64 tries] w fun e w' => e = .returned (.tuple #[.pointer none, .int .i64 1]) ∧ Below w.heap.size w w' := by
  unfold badX at h
  by_cases h1 : rto < 1
  · clear h
    go_enter Try.func9, Try.ntmps9
    go_wp2_with fail
    go_ret2
    exact ⟨rfl, Below.refl _ _⟩
  by_cases h2 : (1073741824 : Int) < rto
  · clear h
    go_enter Try.func9, Try.ntmps9
    go_wp2_with fail
    go_ret2
    exact ⟨rfl, Below.refl _ _⟩
  by_cases h3 : tries < 1
  · clear h
    go_enter Try.func9, Try.ntmps9
    go_wp2_with fail
    go_ret2
    exact ⟨rfl, Below.refl _ _⟩
  by_cases h4 : (10 : Int) < tries
  · clear h
    go_enter Try.func9, Try.ntmps9
    go_wp2_with fail
    go_ret2
    exact ⟨rfl, Below.refl _ _⟩
  · have h5 : (1073741824 : Int) < win := by omega
    clear h
    go_enter Try.func9, Try.ntmps9
    go_wp2_with fail
    go_ret2
    exact ⟨rfl, Below.refl _ _⟩
theorem new_okG (at_ win rto tries : Int) (w : World) (ha : u32X at_) (hw : u32X win) (h : ¬ badX win rto tries) : Calls Try.prog 9 #[.int .u32 at_, .int .u32 win, .int .u64 rto, .int .i64 tries] w (XNews XmAt (newX at_ win rto tries) w) := by
  have h2 := h
  unfold badX at h2
  have q1 : ¬ rto < 1 := by omega
  have q2 : ¬ (1073741824 : Int) < rto := by omega
  have q3 : ¬ tries < 1 := by omega
  have q4 : ¬ (10 : Int) < tries := by omega
  have q5 : ¬ (1073741824 : Int) < win := by omega
  obtain ⟨z, ez⟩ : ∃ z, w.heap.size = z := ⟨_, rfl⟩
  obtain ⟨w1, ew1⟩ : ∃ v, w.alloc (.cells #[.pointer none, .int .u32 at_, .slice none 0 0, .int .i64 0, .int .u32 win, .int .u64 rto, .int .i64 tries, .int .u64 0, .int .i64 0, .int .u64 0] 84) = v := ⟨_, rfl⟩
  have hbel : Below w.heap.size w w1 := by rw [← ew1]; exact (Below.refl _ _).alloc (Nat.le_refl _) _
  have hk : w1.heap[z]? = some (.cells #[.pointer none, .int .u32 at_, .slice none 0 0, .int .i64 0, .int .u32 win, .int .u64 rto, .int .i64 tries, .int .u64 0, .int .i64 0, .int .u64 0] 84 (0, 0)) := by rw [← ew1, ← ez]; exact heap_alloc_new w _
  have c0 : w1.cell? ⟨z, 0, none⟩ = some (.pointer none) := by rw [blk_cell hk]; rfl
  have f0 := blk_free hk 0
  obtain ⟨w2, ew2⟩ : ∃ v, w1.setCell ⟨z, 0, none⟩ (.pointer (some ⟨z, 0, none⟩)) = v := ⟨_, rfl⟩
  have hB : But (fun k => k = z) w1 w2 := by rw [← ew2]; exact (But.refl (fun k => k = z) w1).setCell (p := ⟨z, 0, none⟩) rfl _
  have hk2 := heap_setCell_at hk 0 (.pointer (some ⟨z, 0, none⟩))
  rw [ew2] at hk2
  have HR := Lib.hid (show XNews XmAt (newX at_ win rto tries) w (.returned (.tuple #[.pointer (some ⟨z, 0, none⟩), .int .i64 0])) w2 from
    ⟨z, fun k => k = z, rfl, ⟨none, 0, 0, 0, 0, ⟨hk2, .inl ⟨rfl, rfl, rfl⟩, fun b hb => (by cases hb), new_okX ha hw.1 h, fun e => absurd rfl e, rfl, fun k hk3 => by rw [hk3]; exact lt_of_block hk2⟩⟩, hbel.trans (hB.below (fun k hk3 => by omega) hbel.size), fun k hk3 => by omega⟩)
  have Ew1 := Lib.hid ew1
  have Ew2 := Lib.hid ew2
  clear h h2 hbel hk ew1 ha hw hB hk2 ew2
  go_enter Try.func9, Try.ntmps9
  go_upto_region 4 with (fail)
  rw [Ew1.out]
  go_upto_region 5 with (fail)
  rw [Ew2.out]
  go_wp2_with fail
  go_ret2
  exact HR.out
section
variable {w w' : World} {S T : Nat → Prop} {g c : Nat} {A : Option Addr} {s : XS} {wt ct al : Int}
set_option maxHeartbeats 2000000 in
theorem write_mem (h : XMem w S g A c s wt ct al) (AD : Option Addr) (nD cD : Nat) (ld : List Int) (hd : Rd w AD nD ld) (now : Int) (hn : nowX now) (hnD : nD ≤ 100000) (hA : ∀ b o, AD = some ⟨b, o, none⟩ → 0 < nD → ¬ S b) :
    Calls Try.prog 12 #[.pointer (some ⟨g, 0, none⟩), .slice AD nD cD, .int .u64 now] w (XDoes XmAt S g (writeS ld now s) (.int .i64 (writeE ld s)) w) := by
  have Hno := Lib.hid (xnone_no g w h.c0)
  obtain ⟨m, em⟩ : ∃ m, s.bs.length = m := ⟨_, rfl⟩
  have hm : m ≤ 16384 := by rw [← em]; exact h.ok.len
  have hll := hd.len
  have c2 := h.c2
  rw [em] at c2
  obtain ⟨q, eq⟩ : ∃ q, m + nD = q := ⟨_, rfl⟩
  have hz1 : wrap64 ((m : Int) + (nD : Int)) = (q : Int) := by rw [IntWalk.wrap64_in _ (by omega)]; omega
  by_cases hlong : 16384 < q
  · have h1 : (16384 : Int) < (q : Int) := by omega
    have hL : longX ld s = true := by unfold longX; exact decide_eq_true (by omega)
    have HE := Lib.hid (show XDoes XmAt S g (writeS ld now s) (.int .i64 (writeE ld s)) w (.returned (.int .i64 3)) w from by
      unfold writeS writeE
      rw [if_pos hL, if_pos hL]
      exact ⟨rfl, S, ⟨A, c, wt, ct, al, h⟩, But.refl _ _, fun k hk => .inl hk⟩)
    clear h hd hm hll hn hnD hlong hL em eq hA
    go_enter Try.func12, Try.ntmps12
    go_wp2_with (go_at_call 40; refine Hno.out.mono ?_; rintro e w' ⟨rfl, rfl⟩)
    go_ret
    exact HE.out
  · have h1 : ¬ (16384 : Int) < (q : Int) := by omega
    have hL : ¬ longX ld s = true := by unfold longX; simp; omega
    have e2 : writeE ld s = 0 := by unfold writeE; rw [if_neg hL]
    rw [e2]
    by_cases hm0 : m = 0
    · subst hm0
      have hbs : s.bs = [] := List.eq_nil_of_length_eq_zero em
      have Hbeg := Lib.hid (begin_any h now hn)
      have hz2 : wrap64 (nD : Int) = (nD : Int) := by rw [IntWalk.wrap64_in _ (by omega)]
      have h3 : ¬ (16384 : Int) < (nD : Int) := by omega
      have h4 : ¬ 16384 < nD := by omega
      have Hd := Lib.hid hd
      have HA := Lib.hid hA
      have H := Lib.hid h
      have Hp := Lib.hid (And.intro hbs (And.intro hL (And.intro hn (And.intro hnD (And.intro hlong eq)))))
      clear h hd hm hll hn hnD hlong hL em eq hbs hA e2
      go_enter Try.func12, Try.ntmps12
      go_wp2_with (go_at_call 40; refine Hno.out.mono ?_; rintro e w' ⟨rfl, rfl⟩)
      refine Hbeg.out.mono ?_
      rintro e w1 ⟨rfl, hx, hb⟩
      obtain ⟨hbs, hL, hn, hnD, hlong, eq⟩ := Hp.out
      have hd1 := Hd.out.but hb (fun b o e h0 e5 => HA.out b o e h0 (by rw [show b = g from e5]; exact H.out.sg))
      obtain ⟨A2, c2', w2, hrun, d2, df2, S', hx2, hb2, hS2⟩ := hx.app AD nD cD ld hd1 (by show s.bs.length + nD ≤ 16384; rw [hbs, List.length_nil]; omega) (fun _ => ⟨rfl, rfl, rfl⟩) 0 (by show s.bs.length = 0; rw [hbs]; rfl)
      simp only [Nat.zero_add] at hrun hx2 hb2
      have HE := Lib.hid (show XDoes XmAt S g (writeS ld now s) (.int .i64 0) w (.returned (.int .i64 0)) (w2.setCell ⟨g, 2, none⟩ (.slice A2 nD c2')) from by
        have hBB : But S w (w2.setCell ⟨g, 2, none⟩ (.slice A2 nD c2')) := (but_m H.out hb).trans hb2
        have hSS : ∀ k, S' k → S k ∨ w.heap.size ≤ k := fun k hk => by
          rcases hS2 k hk with h5 | h5
          · exact .inl h5
          · have := hb.size; exact .inr (by omega)
        by_cases hld : ld = []
        · subst hld
          refine ⟨rfl, S', ⟨A2, c2', s.rto, 0, now + s.rto, hx2.loose (s' := writeS [] now s) ?_ ?_ ?_ ?_ ?_ ?_ ?_ ?_⟩, hBB, hSS⟩
          · show s.bs ++ [] = []
            rw [hbs]; rfl
          all_goals first
            | exact write_ok H.out.ok hn (fun x hx => by cases hx)
            | (unfold writeS
               rw [if_neg hL, if_neg (fun e => e.2 rfl)]
               rfl)
        · have e9 : layX ld (anewX now s) = writeS ld now s := by
            unfold writeS
            rw [if_neg hL, if_pos ⟨hbs, hld⟩]
            rfl
          exact ⟨rfl, S', ⟨A2, c2', s.rto, 0, now + s.rto, by rw [← e9]; exact hx2⟩, hBB, hSS⟩)
      have c21 := hx.c2
      rw [show (anewX now s).bs.length = 0 by show s.bs.length = 0; rw [hbs]; rfl] at c21
      have Hrun := Lib.hid hrun
      clear hx hb hd1 hrun hx2 hb2 hS2 hbs hL hn hnD hlong eq c2
      go_upto_region 8 with (at_builtin; refine wpList_appX rfl (.tmp 31) (.tmp 32) _ _ rfl rfl _ _ _ w2 rfl rfl Hrun.out ?_)
      go_wp2_with fail
      go_ret
      exact HE.out
    · have hne : ((m : Int) == 0) = false := by rw [beq_eq_false_iff_ne]; omega
      have hne2 : (m == 0) = false := by rw [beq_eq_false_iff_ne]; omega
      have hbs : s.bs ≠ [] := fun e => hm0 (by rw [← em, e]; rfl)
      obtain ⟨A2, c2', w2, hrun, d2, df2, S', hx2, hb2, hS2⟩ := h.app AD nD cD ld hd (by omega) (fun _ => h.on_ hbs) m em
      have HE := Lib.hid (show XDoes XmAt S g (writeS ld now s) (.int .i64 0) w (.returned (.int .i64 0)) (w2.setCell ⟨g, 2, none⟩ (.slice A2 (m + nD) c2')) from by
        refine ⟨rfl, S', ⟨A2, c2', wt, ct, al, ?_⟩, hb2, hS2⟩
        unfold writeS
        rw [if_neg hL, if_neg (fun e => hbs e.1)]
        exact hx2)
      have Hrun := Lib.hid hrun
      clear h hd hm hll hn hnD hlong hL em eq hA e2 hm0 hbs hx2 hb2 hS2 hrun
      go_enter Try.func12, Try.ntmps12
      go_upto_region 8 with (first | (go_at_call 40; refine Hno.out.mono ?_; rintro e w' ⟨rfl, rfl⟩) | (at_builtin; refine wpList_appX rfl (.tmp 31) (.tmp 32) _ _ rfl rfl _ _ _ w2 rfl rfl Hrun.out ?_))
      go_wp2_with fail
      go_ret
      exact HE.out
end
end Go.Proofs.Ytncbkgcblmohoaa
