/-
  The document's own buffer (culvertref19): Tick, when it tells a piece.
-/
import Derived.Test.YtncbkgcblmohoaaTk
import Derived.Test.YtncbkgcblmohoaaRxRefT
import Derived.Test.YtncbkgcblmohoaaHeldLast
namespace Go.Proofs.Ytncbkgcblmohoaa
set_option maxRecDepth 10000
open Go.RowKit
set_option linter.unusedSimpArgs false
set_option linter.unusedVariables false

/-- What goes on in Tick's loop: the buffer, the result's block z, the piece's block y. -/
structure TkX (w : World) (T : Nat → Prop) (g : Nat) (A : Option Addr) (c : Nat) (first : Int) (W : List Int) (a : Nat) (s : XS) (z y : Nat) (u : Int) (Ap : Option Addr) (t cp : Nat) (l : List Int) (wr : World) : Prop where
  ref : RefX wr T g A c first W a s
  bz : wr.heap[z]? = some (.cells #[.int .u32 0, .slice none 0 0] 57 (0, 0))
  bp : wr.heap[y]? = some (.cells #[.int .u32 u, .slice Ap t cp] 57 (0, 0))
  own : OwnB wr w.heap.size Ap t cp l
  all : But T w wr
theorem own_ty {w : World} {B n c b : Nat} {A : Option Addr} {l : List Int} (h : OwnB w B A n c l) (hb : (Value.slice A n c).ownBlock = some b) : B ≤ b ∧ ∃ C, w.heap[b]? = some (.cells C 5 (0, 0)) := by
  rcases h.2 with ⟨e, _⟩ | ⟨g2, cap, cur, e, hB, hg, _⟩
  · rw [e] at hb; cases hb
  · rw [e] at hb
    injection hb with hb
    subst hb
    exact ⟨hB, _, hg⟩
theorem own_not {w : World} {B n c k : Nat} {A : Option Addr} {l : List Int} {C : Array Value} {T : TypeId} {fr : Nat × Nat} (h : OwnB w B A n c l) (hk : w.heap[k]? = some (.cells C T fr)) (hT : 5 ≠ T) : ¬ (Value.slice A n c).ownBlock = some k := by
  intro e
  obtain ⟨_, C', hC⟩ := own_ty h e
  rw [hC] at hk
  injection hk with hk
  injection hk with _ hk
  exact hT hk
section
variable {w wr : World} {T : Nat → Prop} {g c a z y t cp : Nat} {A Ap : Option Addr} {first u : Int} {W l : List Int} {s : XS}
theorem TkX.more (h : TkX w T g A c first W a s z y u Ap t cp l wr) (hlt : ∀ k, T k → k < w.heap.size) (hz : w.heap.size ≤ z) (hy : w.heap.size ≤ y) (hyz : y ≠ z) (ht : t ≤ 100000) (x : Int) (hx : 0 ≤ x ∧ x < 256) :
    ∃ A2 c2 w7, (Builtin.append_ #[37, 37] 37 #[.slice Ap t cp, .slice (some ⟨wr.heap.size, 0, none⟩) 1 1]).run Try.prog (wr.drew.alloc (.cells #[.int .u8 x] 5)) = .ok (.slice A2 (t + 1) c2) w7 ∧
      (∀ V v, wr.cell? ⟨g, V, none⟩ = some v → w7.cell? ⟨g, V, none⟩ = some v) ∧ w7.cell? ⟨y, 1, none⟩ = some (.slice Ap t cp) ∧ w7.frozen? ⟨y, 1, none⟩ = false ∧ TkX w T g A c first W a s z y u A2 (t + 1) c2 (l ++ [x]) (w7.setCell ⟨y, 1, none⟩ (.slice A2 (t + 1) c2)) ∧
      (∀ p v, p.block < w.heap.size → wr.cell? p = some v → w7.cell? p = some v) := by
  obtain ⟨hr, bz, bp, own, all⟩ := h
  have hbA : But (fun _ => False) wr (wr.drew.alloc (.cells #[.int .u8 x] 5)) := ((But.refl _ _).drew).alloc _
  have hsz := all.size
  have hra : Rd (wr.drew.alloc (.cells #[.int .u8 x] 5)) (some ⟨wr.heap.size, 0, none⟩) 1 [x] := Rd.one wr.drew x hx
  have hoa := own.but hbA (fun _ _ h => h)
  obtain ⟨A2, c2, w7, hrun, ho7, hg7, hb7, hat⟩ := app_run (wr.drew.alloc (.cells #[.int .u8 x] 5)) 37 w.heap.size Ap (some ⟨wr.heap.size, 0, none⟩) t cp 1 1 l [x] hoa hra (by omega) (by simp; omega)
  have hB7 : But (fun k => (Value.slice Ap t cp).ownBlock = some k) (wr.drew.alloc (.cells #[.int .u8 x] 5)) w7 := ⟨hg7.os, hg7.tape, hg7.output, hg7.size, fun k hk hn => hg7.block k hk (fun e => hn (by first | exact e | exact e.symm))⟩
  have nz := own_not own bz (by decide)
  have ny := own_not own bp (by decide)
  have bz7 := hB7.blk (hbA.blk bz (fun h => h)) nz
  have bp7 := hB7.blk (hbA.blk bp (fun h => h)) ny
  have old : ∀ k, k < w.heap.size → ¬ (Value.slice Ap t cp).ownBlock = some k := fun k hk e => by have := (own_ty own e).1; omega
  have hr7 := (hr.but hbA (fun _ _ h => h)).but hB7 (fun k hk => old k (hlt k hk))
  have hB8 : But (fun k => k = y) w7 (w7.setCell ⟨y, 1, none⟩ (.slice A2 (t + 1) c2)) := (But.refl (fun k => k = y) w7).setCell (p := ⟨y, 1, none⟩) rfl _
  have nxy := own_not ho7 bp7 (by decide)
  refine ⟨A2, c2, w7, hrun, fun V v hv => ?_, by rw [blk_cell bp7]; rfl, blk_free bp7 1, ⟨hr7.but hB8 (fun k hk e => by have := hlt k hk; omega), hB8.blk bz7 (fun e => hyz e.symm), heap_setCell_at bp7 _ _, ?_, ?_⟩, fun p v hp hv => ?_⟩
  · have hgl := hlt g hr.sg
    have hgw := hr.lt g hr.sg
    exact (hB7.cell (p := ⟨g, V, none⟩) (hbA.lt hgw) (old g hgl)).trans ((hbA.cell (p := ⟨g, V, none⟩) hgw (fun h => h)).trans hv)
  · refine ⟨ho7.1, ?_⟩
    rcases ho7.2 with h0 | ⟨g2, cap, cur, e, hB, hc, hrest⟩
    · exact .inl h0
    · exact .inr ⟨g2, cap, cur, e, hB, hB8.blk hc (fun e2 => nxy (by rw [e, ← e2]; rfl)), hrest⟩
  · exact ((all.trans (hbA.mono (fun _ _ h => h.elim))).trans2 hB7 (fun k hk e => absurd e (old k hk))).trans2 hB8 (fun k hk e => by omega)
  · have hpw : p.block < wr.heap.size := by omega
    exact (hB7.cell (p := p) (hbA.lt hpw) (old p.block hp)).trans ((hbA.cell (p := p) hpw (fun h => h)).trans hv)
theorem TkX.drewN (h : TkX w T g A c first W a s z y u Ap t cp l wr) (k : Nat) : TkX w T g A c first W a s z y u Ap t cp l (wr.drewN k) := ⟨h.ref.drewN k, h.bz, h.bp, h.own.drewN k, h.all.drewN k⟩
end
set_option maxHeartbeats 4000000 in
theorem rtick19_some {w : World} {T : Nat → Prop} {g c a : Nat} {A : Option Addr} {first : Int} {W : List Int} {s : XS} (h : RefX w T g A c first W a s) (mss now : Int) (hn : 0 ≤ now ∧ now ≤ 4398046511104) (hk4 : tickK mss now s = 4) :
    Calls Try.prog 23 #[.pointer (some ⟨g, 0, none⟩), .int .i64 mss, .int .u64 now] w (RTickX T g first W.length (tickS mss now s) (tickA mss now s) (tickB mss now s) (tickE mss now s) (tickD mss now s) w) := by
  have H := Lib.hid h
  obtain ⟨z, ez⟩ : ∃ z, w.heap.size = z := ⟨_, rfl⟩
  have HB1 := Lib.hid (show Below w.heap.size w (w.alloc (.cells #[.int .u32 0, .slice none 0 0] 57)) from (Below.refl _ _).alloc (Nat.le_refl _) _)
  have HZ1 := Lib.hid (show (w.alloc (.cells #[.int .u32 0, .slice none 0 0] 57)).heap[z]? = some (.cells #[.int .u32 0, .slice none 0 0] 57 (0, 0)) by rw [← ez]; exact heap_alloc_new w _)
  have hok := h.ok
  have hbad : badM mss = false := by
    cases hb : badM mss with
    | false => rfl
    | true => unfold tickK at hk4; rw [hb] at hk4; simp at hk4
  have hm1 : ¬ mss < 1 := by unfold badM at hbad; simp at hbad; omega
  have hm2 : ¬ 1500 < mss := by unfold badM at hbad; simp at hbad; omega
  have hdue : dueX now s = true := by
    cases hb : dueX now s with
    | true => rfl
    | false => unfold tickK at hk4; rw [hbad, hb] at hk4; simp at hk4
  have hcnt : ¬ s.tries ≤ s.count := fun e => by
    unfold tickK at hk4
    rw [hbad, hdue, if_neg (by simp), if_neg (by simp), if_pos e] at hk4
    omega
  obtain ⟨m, em⟩ : ∃ m, s.bs.length = m := ⟨_, rfl⟩
  have hset : 0 < m ∧ s.alarm ≤ now := by
    unfold dueX setX at hdue
    simp at hdue
    refine ⟨?_, hdue.2⟩
    rw [← em]
    exact List.length_pos_iff.2 hdue.1
  obtain ⟨hm0, hal⟩ := hset
  have HL := Lib.hid (rleft19_any (h.on HB1.out))
  rw [em] at HL
  have hne : ((m : Int) == 0) = false := by rw [beq_eq_false_iff_ne]; omega
  have hne2 : (m == 0) = false := by rw [beq_eq_false_iff_ne]; omega
  obtain ⟨al, eal⟩ : ∃ x, s.alarm = x := ⟨_, rfl⟩
  obtain ⟨tr, etr⟩ : ∃ x, s.tries = x := ⟨_, rfl⟩
  obtain ⟨cn, ecn⟩ : ∃ x, s.count = x := ⟨_, rfl⟩
  obtain ⟨wt, ewt⟩ : ∃ x, s.wait = x := ⟨_, rfl⟩
  have c8 := (h.on HB1.out).c8
  rw [eal] at c8 hal
  have hal2 : ¬ now < al := by omega
  have hcl : (tr ≤ cn) = False := eq_false (by rw [← etr, ← ecn]; exact hcnt)
  have hwb := hok.waits
  rw [ewt] at hwb
  have hcb := hok.count
  have htb := hok.tries
  rw [ecn, etr] at hcb
  rw [etr] at htb
  have HC := Lib.hid (And.intro (show (w.alloc (.cells #[.int .u32 0, .slice none 0 0] 57)).cell? ⟨g, 6, none⟩ = some (.int .i64 tr) by rw [← etr]; exact (h.on HB1.out).c6) (show (w.alloc (.cells #[.int .u32 0, .slice none 0 0] 57)).cell? ⟨g, 9, none⟩ = some (.int .i64 cn) by rw [← ecn]; exact (h.on HB1.out).c9))
  have Hnum := Lib.hid (And.intro hn (And.intro hwb (And.intro hcb (And.intro htb (And.intro hm0 (And.intro hm1 hm2))))))
  have Heq := Lib.hid (And.intro em (And.intro eal (And.intro etr (And.intro ecn ewt))))
  have Hk4 := Lib.hid hk4
  clear h hok hbad hdue hcnt em eal etr ecn ewt hwb hcb htb hn hk4 hal hm0
  go_enter Try.func23, Try.ntmps23
  go_wp2_with fail
  refine HL.out.mono ?_
  rintro e wL ⟨rfl, k, rfl⟩
  go_wp2_with fail
  refine wp_region_held_drew (S := fun w' => w'.cell? ⟨g, 6, none⟩ = some (.int .i64 tr) ∧ w'.cell? ⟨g, 9, none⟩ = some (.int .i64 cn)) (by kernel_rfl) (by exact HC.out) (fun hHeld => ?_)
  refine tk 0 ?_ rfl ?_ ?_
  rotate_left
  · intro w' hSw; (go_simp <;> (with_reducible rfl))
  try simp only [Act.put, putL]
  refine tk 1 ?_ rfl ?_ ?_
  rotate_left
  · intro w' hSw; (go_simp <;> (with_reducible rfl))
  try simp only [Act.put, putL]
  refine tk 2 ?_ rfl ?_ ?_
  rotate_left
  · intro w' hSw; (go_simp <;> (with_reducible rfl))
  try simp only [Act.put, putL]
  refine tk 3 ?_ rfl ?_ ?_
  rotate_left
  · intro w' hSw; (go_simp <;> (with_reducible rfl))
  try simp only [Act.put, putL]
  refine tk 4 ?_ rfl ?_ ?_
  rotate_left
  · intro w' hSw; (go_simp <;> (with_reducible rfl))
  try simp only [Act.put, putL]
  refine tk 5 ?_ rfl ?_ ?_
  rotate_left
  · intro w' hSw; (go_simp <;> (with_reducible rfl))
  try simp only [Act.put, putL]
  refine tk 6 ?_ rfl ?_ ?_
  rotate_left
  · intro w' hSw; (go_simp <;> (with_reducible rfl))
  try simp only [Act.put, putL]
  refine tk 7 ?_ rfl ?_ ?_
  rotate_left
  · intro w' hSw; (go_simp <;> (with_reducible rfl))
  try simp only [Act.put, putL]
  refine tk 8 ?_ rfl ?_ ?_
  rotate_left
  · intro w' hSw; (go_simp <;> (with_reducible rfl))
  try simp only [Act.put, putL]
  refine wpAnyH_done (by kernel_rfl) ?_ _
  clear hHeld hcl hal2 hne hne2 c8 HL
  obtain ⟨w1, ew1⟩ : ∃ v, ((w.alloc (.cells #[.int .u32 0, .slice none 0 0] 57)).drewN k).drew = v := ⟨_, rfl⟩
  have hb01 : Below w.heap.size w w1 := by rw [← ew1]; exact below_dX (below_dX HB1.out k) 1
  have hz1 : w1.heap[z]? = some (.cells #[.int .u32 0, .slice none 0 0] 57 (0, 0)) := by rw [← ew1]; exact HZ1.out
  have hbx1 := (H.out.on hb01).box
  obtain ⟨cn1, ecn1⟩ : ∃ x, cn + 1 = x := ⟨_, rfl⟩
  obtain ⟨wt2, ewt2⟩ : ∃ x, wt + wt = x := ⟨_, rfl⟩
  obtain ⟨al2, eal2⟩ : ∃ x, now + wt2 = x := ⟨_, rfl⟩
  have hbx2 := heap_setCell_at hbx1 9 (.int .i64 cn1)
  obtain ⟨w2, ew2⟩ : ∃ v, w1.setCell ⟨g, 9, none⟩ (.int .i64 cn1) = v := ⟨_, rfl⟩
  rw [ew2] at hbx2
  obtain ⟨w2d, ew2d⟩ : ∃ v, w2.drew = v := ⟨_, rfl⟩
  have hh : w2d.heap = w2.heap := by rw [← ew2d]; rfl
  have hbx2d := hbx2
  rw [← hh] at hbx2d
  have hbx3 := heap_setCell_at hbx2d 7 (.int .u64 wt2)
  obtain ⟨w3, ew3⟩ : ∃ v, w2d.setCell ⟨g, 7, none⟩ (.int .u64 wt2) = v := ⟨_, rfl⟩
  rw [ew3] at hbx3
  have hbx4 := heap_setCell_at hbx3 8 (.int .u64 al2)
  obtain ⟨w4, ew4⟩ : ∃ v, w3.setCell ⟨g, 8, none⟩ (.int .u64 al2) = v := ⟨_, rfl⟩
  rw [ew4] at hbx4
  have hB14 : But (fun q => q = g) w1 w4 := by
    rw [← ew4, ← ew3, ← ew2d, ← ew2]
    exact ((((But.refl (fun q => q = g) w1).setCell (p := ⟨g, 9, none⟩) rfl _).drew).setCell (p := ⟨g, 7, none⟩) rfl _).setCell (p := ⟨g, 8, none⟩) rfl _
  have hwlt := H.out.lt g H.out.sg
  obtain ⟨hn, hwb, hcb, htb, hm0, hm1', hm2'⟩ := Hnum.out
  obtain ⟨em, eal, etr, ecn, ewt⟩ := Heq.out
  have hokS : OkX { s with count := cn1, wait := wt2, alarm := al2 } := by
    have h1 := tick_ok (mss := mss) H.out.ok hn
    unfold tickS at h1
    rw [if_pos Hk4.out, ecn, ewt, ecn1, ewt2, eal2] at h1
    exact ⟨h1.una, h1.byte, h1.len, H.out.ok.sent, h1.win, h1.rto, h1.tries, h1.count, h1.wait, h1.alarm⟩
  obtain ⟨s3, es3⟩ : ∃ x : XS, { s with count := cn1, wait := wt2, alarm := al2 } = x := ⟨_, rfl⟩
  have H4 : RefX w4 T g A c first W a s3 := by
    have hr1 := (H.out.on hb01).row
    rw [es3] at hokS
    refine ⟨?_, hr1.but hB14 (fun b o e h0 => (H.out.on hb01).off b o e h0), H.out.cap, H.out.fbd, H.out.al, by rw [← es3]; exact H.out.bs, by rw [← es3]; exact H.out.una, H.out.big, hokS, H.out.sg, H.out.sr, fun q hq => hB14.lt (by have := H.out.lt q hq; have := hb01.size; omega)⟩
    rw [hbx4, ← es3]
    rfl
  have hz4 := hB14.blk hz1 (fun e => by omega)
  obtain ⟨y, ey⟩ : ∃ y, w4.heap.size = y := ⟨_, rfl⟩
  obtain ⟨w5, ew5⟩ : ∃ v, w4.alloc (.cells #[.int .u32 s.una, .slice none 0 0] 57) = v := ⟨_, rfl⟩
  have hb45 : Below w4.heap.size w4 w5 := by rw [← ew5]; exact (Below.refl _ _).alloc (Nat.le_refl _) _
  have hbp5 : w5.heap[y]? = some (.cells #[.int .u32 s.una, .slice none 0 0] 57 (0, 0)) := by rw [← ew5, ← ey]; exact heap_alloc_new w4 _
  have hsz4 : w.heap.size ≤ w4.heap.size := by have := hb01.size; have := hB14.size; omega
  have hzlt := lt_of_block hz4
  have HT0 := Lib.hid (show TkX w T g A c first W a s3 z y s.una none 0 0 [] w5 from ⟨H4.on hb45, blk_on hz4 hb45, hbp5, OwnB.nil _ _, (But.of hb01).trans ((but_g H.out hB14).trans (But.of hb45))⟩)
  have Hyz := Lib.hid (show w.heap.size ≤ z ∧ w.heap.size ≤ y ∧ y ≠ z from ⟨by omega, by omega, by omega⟩)
  have HU := Lib.hid (runa19_any H4)
  rw [show s3.una = s.una by rw [← es3]] at HU
  have d9 : w1.cell? ⟨g, 9, none⟩ = some (.int .i64 cn) := by rw [blk_cell hbx1, ← ecn]; rfl
  have f9 := blk_free hbx1 9
  have d7 : w2d.cell? ⟨g, 7, none⟩ = some (.int .u64 wt) := by rw [blk_cell hbx2d, ← ewt]; rfl
  have f7 := blk_free hbx2d 7
  have d7b : w3.cell? ⟨g, 7, none⟩ = some (.int .u64 wt2) := by rw [blk_cell hbx3]; rfl
  have d8 : w3.cell? ⟨g, 8, none⟩ = some (.int .u64 s.alarm) := by rw [blk_cell hbx3]; rfl
  have f8 := blk_free hbx3 8
  have u1 : wrap64 (cn + 1) = cn1 := by rw [IntWalk.wrap64_in _ (by omega)]; exact ecn1
  have u2 : IntKind.u64.wrap (wt + wt) = wt2 := by rw [IntKind.wrap_u64]; omega
  have u3 : (now + wt2) % 18446744073709551616 = al2 := by omega
  have u4 : IntKind.u64.wrap (now + wt2) = al2 := by rw [IntKind.wrap_u64]; omega
  have Ew2 := Lib.hid ew2
  have Ew2d := Lib.hid ew2d
  have Ew3 := Lib.hid ew3
  have Ew4 := Lib.hid ew4
  have Ew5 := Lib.hid ew5
  have Ey := Lib.hid ey
  have Es3 := Lib.hid es3
  have D7 := Lib.hid d7
  have Eq2 := Lib.hid (And.intro ecn1 (And.intro ewt2 eal2))
  have c42 := H4.c2
  rw [ew1]
  clear hh hb01 hz1 hbx1 hbx2 hbx2d hbx3 hbx4 hB14 hwlt hn hwb hcb htb hm0 hm1' hm2' em eal etr ecn ewt hokS H4 hz4 hb45 hbp5 hsz4 hzlt ew1 ew2 ew2d ew3 ew4 ew5 ey es3 ecn1 ewt2 eal2 ez HC HB1 HZ1 hm1 hm2
  go_upto_region 8 with (fail)
  rw [Ew2.out]
  clear d9 f9 u1
  refine wp_region_heldL (S := fun w' => w'.cell? ⟨g, 7, none⟩ = some (.int .u64 wt)) 12 (by kernel_rfl) (by rw [Ew2d.out]; exact d7) (fun hHeld => ?_)
  rw [Ew2d.out] at hHeld ⊢
  refine anyHL_take (i := 0) (oi := { dst := some 47, op := Go.Op.move (Go.Operand.tmp 0), type := 31, pos := "ref.go:119", after := #[], guard := none }) (v := ?_) rfl (by kernel_rfl) (by kernel_rfl) (by kernel_rfl) (by kernel_rfl) (fun _ _ _ h => h) (Or.inl ⟨by rfl, ?_⟩) (by assumption) ?_
  rotate_left 1
  · intro w' hSw; (go_simp <;> (with_reducible rfl))
  (try simp only [Act.put, List.setIfInBounds_toArray, List.set_cons_zero, List.set_cons_succ])
  refine anyHL_take (i := 1) (oi := { dst := some 48, op := Go.Op.move (Go.Operand.tmp 0), type := 31, pos := "ref.go:119", after := #[], guard := none }) (v := ?_) rfl (by kernel_rfl) (by kernel_rfl) (by kernel_rfl) (by kernel_rfl) (fun _ _ _ h => h) (Or.inl ⟨by rfl, ?_⟩) (by assumption) ?_
  rotate_left 1
  · intro w' hSw; (go_simp <;> (with_reducible rfl))
  (try simp only [Act.put, List.setIfInBounds_toArray, List.set_cons_zero, List.set_cons_succ])
  refine anyHL_take (i := 2) (oi := { dst := some 49, op := Go.Op.nilCheck (Go.Operand.tmp 48), type := 0, pos := "ref.go:119", after := #[{ on := 1, ground := Go.Ground.data }], guard := none }) (v := ?_) rfl (by kernel_rfl) (by kernel_rfl) (by kernel_rfl) (by kernel_rfl) (fun _ _ _ h => h) (Or.inl ⟨by rfl, ?_⟩) (by assumption) ?_
  rotate_left 1
  · intro w' hSw; (go_simp <;> (with_reducible rfl))
  (try simp only [Act.put, List.setIfInBounds_toArray, List.set_cons_zero, List.set_cons_succ])
  refine anyHL_take (i := 3) (oi := { dst := some 50, op := Go.Op.fieldAddr 64 (Go.Operand.tmp 49) 7, type := 0, pos := "ref.go:119", after := #[{ on := 2, ground := Go.Ground.data }], guard := none }) (v := ?_) rfl (by kernel_rfl) (by kernel_rfl) (by kernel_rfl) (by kernel_rfl) (fun _ _ _ h => h) (Or.inl ⟨by rfl, ?_⟩) (by assumption) ?_
  rotate_left 1
  · intro w' hSw; (go_simp <;> (with_reducible rfl))
  (try simp only [Act.put, List.setIfInBounds_toArray, List.set_cons_zero, List.set_cons_succ])
  refine anyHL_take (i := 4) (oi := { dst := some 51, op := Go.Op.load 23 (Go.Operand.tmp 50), type := 23, pos := "ref.go:119", after := #[{ on := 3, ground := Go.Ground.data }], guard := none }) (v := ?_) rfl (by kernel_rfl) (by kernel_rfl) (by kernel_rfl) (by kernel_rfl) (fun _ _ _ h => h) (Or.inl ⟨by rfl, ?_⟩) (by assumption) ?_
  rotate_left 1
  · intro w' hSw; (go_simp <;> (with_reducible rfl))
  (try simp only [Act.put, List.setIfInBounds_toArray, List.set_cons_zero, List.set_cons_succ])
  refine anyHL_take (i := 5) (oi := { dst := some 52, op := Go.Op.move (Go.Operand.tmp 0), type := 31, pos := "ref.go:119", after := #[], guard := none }) (v := ?_) rfl (by kernel_rfl) (by kernel_rfl) (by kernel_rfl) (by kernel_rfl) (fun _ _ _ h => h) (Or.inl ⟨by rfl, ?_⟩) (by assumption) ?_
  rotate_left 1
  · intro w' hSw; (go_simp <;> (with_reducible rfl))
  (try simp only [Act.put, List.setIfInBounds_toArray, List.set_cons_zero, List.set_cons_succ])
  refine anyHL_take (i := 6) (oi := { dst := some 53, op := Go.Op.nilCheck (Go.Operand.tmp 52), type := 0, pos := "ref.go:119", after := #[{ on := 5, ground := Go.Ground.data }], guard := none }) (v := ?_) rfl (by kernel_rfl) (by kernel_rfl) (by kernel_rfl) (by kernel_rfl) (fun _ _ _ h => h) (Or.inl ⟨by rfl, ?_⟩) (by assumption) ?_
  rotate_left 1
  · intro w' hSw; (go_simp <;> (with_reducible rfl))
  (try simp only [Act.put, List.setIfInBounds_toArray, List.set_cons_zero, List.set_cons_succ])
  refine anyHL_take (i := 7) (oi := { dst := some 54, op := Go.Op.fieldAddr 64 (Go.Operand.tmp 53) 7, type := 0, pos := "ref.go:119", after := #[{ on := 6, ground := Go.Ground.data }], guard := none }) (v := ?_) rfl (by kernel_rfl) (by kernel_rfl) (by kernel_rfl) (by kernel_rfl) (fun _ _ _ h => h) (Or.inl ⟨by rfl, ?_⟩) (by assumption) ?_
  rotate_left 1
  · intro w' hSw; (go_simp <;> (with_reducible rfl))
  (try simp only [Act.put, List.setIfInBounds_toArray, List.set_cons_zero, List.set_cons_succ])
  refine anyHL_take (i := 8) (oi := { dst := some 55, op := Go.Op.load 23 (Go.Operand.tmp 54), type := 23, pos := "ref.go:119", after := #[{ on := 7, ground := Go.Ground.data }], guard := none }) (v := ?_) rfl (by kernel_rfl) (by kernel_rfl) (by kernel_rfl) (by kernel_rfl) (fun _ _ _ h => h) (Or.inl ⟨by rfl, ?_⟩) (by assumption) ?_
  rotate_left 1
  · intro w' hSw; (go_simp <;> (with_reducible rfl))
  (try simp only [Act.put, List.setIfInBounds_toArray, List.set_cons_zero, List.set_cons_succ])
  refine anyHL_take (i := 9) (oi := { dst := some 56, op := Go.Op.binOp Go.BinOp.add 23 (Go.Operand.tmp 51) (Go.Operand.tmp 55) 23, type := 23, pos := "ref.go:119", after := #[{ on := 4, ground := Go.Ground.data }, { on := 8, ground := Go.Ground.data }], guard := none }) (v := ?_) rfl (by kernel_rfl) (by kernel_rfl) (by kernel_rfl) (by kernel_rfl) (fun _ _ _ h => h) (Or.inl ⟨by rfl, ?_⟩) (by assumption) ?_
  rotate_left 1
  · intro w' hSw; (go_simp <;> (with_reducible rfl))
  (try simp only [Act.put, List.setIfInBounds_toArray, List.set_cons_zero, List.set_cons_succ])
  refine anyHL_one (i := 10) (o := { dst := some 57, op := Go.Op.nilCheck (Go.Operand.tmp 47), type := 0, pos := "ref.go:119", after := #[{ on := 0, ground := Go.Ground.data }, { on := 0, ground := Go.Ground.phase }, { on := 1, ground := Go.Ground.phase }, { on := 2, ground := Go.Ground.phase }, { on := 3, ground := Go.Ground.phase }, { on := 4, ground := Go.Ground.phase }, { on := 5, ground := Go.Ground.phase }, { on := 6, ground := Go.Ground.phase }, { on := 7, ground := Go.Ground.phase }, { on := 8, ground := Go.Ground.phase }, { on := 9, ground := Go.Ground.phase }], guard := none }) (by kernel_rfl) rfl (by kernel_rfl) (fun K hK => ?_)
  go_simp
  skip
  refine hK.out _ _ ?_ (fun hHeld => ?_)
  · exact D7.out
  clear hK K
  (try simp only [Act.put, List.setIfInBounds_toArray, List.set_cons_zero, List.set_cons_succ])
  refine anyHL_take (i := 11) (oi := { dst := some 58, op := Go.Op.fieldAddr 64 (Go.Operand.tmp 57) 7, type := 0, pos := "ref.go:119", after := #[{ on := 10, ground := Go.Ground.data }, { on := 0, ground := Go.Ground.phase }, { on := 1, ground := Go.Ground.phase }, { on := 2, ground := Go.Ground.phase }, { on := 3, ground := Go.Ground.phase }, { on := 4, ground := Go.Ground.phase }, { on := 5, ground := Go.Ground.phase }, { on := 6, ground := Go.Ground.phase }, { on := 7, ground := Go.Ground.phase }, { on := 8, ground := Go.Ground.phase }, { on := 9, ground := Go.Ground.phase }], guard := none }) (v := ?_) rfl (by kernel_rfl) (by kernel_rfl) (by kernel_rfl) (by kernel_rfl) (fun _ _ _ h => h) (Or.inl ⟨by rfl, ?_⟩) (by assumption) ?_
  rotate_left 1
  · intro w' hSw; (go_simp <;> (with_reducible rfl))
  (try simp only [Act.put, List.setIfInBounds_toArray, List.set_cons_zero, List.set_cons_succ])
  refine anyHL_last (o := { dst := none, op := Go.Op.store 23 (Go.Operand.tmp 58) (Go.Operand.tmp 56), type := 0, pos := "ref.go:119", after := #[{ on := 11, ground := Go.Ground.data }, { on := 9, ground := Go.Ground.data }, { on := 0, ground := Go.Ground.phase }, { on := 1, ground := Go.Ground.phase }, { on := 2, ground := Go.Ground.phase }, { on := 3, ground := Go.Ground.phase }, { on := 4, ground := Go.Ground.phase }, { on := 5, ground := Go.Ground.phase }, { on := 6, ground := Go.Ground.phase }, { on := 7, ground := Go.Ground.phase }, { on := 8, ground := Go.Ground.phase }, { on := 9, ground := Go.Ground.phase }], guard := none }) (by kernel_rfl) rfl (by kernel_rfl) (fun K hK => ?_)
  go_simp
  skip
  refine hK.out _ _ ?_
  clear hK K
  (try simp only [Act.put, List.setIfInBounds_toArray, List.set_cons_zero, List.set_cons_succ])
  rw [Ew3.out]
  clear d7 f7 u2
  go_wp2_with fail
  rw [Ew4.out]
  clear d7b d8 f8 u3 u4
  refine HU.out.mono ?_
  rintro e wq ⟨rfl, rfl⟩
  go_upto_region 11 with (fail)
  rw [Ey.out, Ew5.out]
  obtain ⟨n, en⟩ : ∃ n, W.length = n := ⟨_, rfl⟩
  obtain ⟨wn, ewn⟩ : ∃ x, s.win = x := ⟨_, rfl⟩
  have hbl := H.out.blen
  rw [en, Heq.out.1] at hbl
  have hmb : m ≤ 16384 := by rw [← Heq.out.1]; exact H.out.ok.len
  have hwin := H.out.ok.win
  rw [ewn] at hwin
  have hbig := H.out.big
  rw [en] at hbig
  obtain ⟨K, eK⟩ : ∃ K, min m (min mss.toNat (max 1 wn.toNat)) = K := ⟨_, rfl⟩
  have hmp := Hnum.out.2.2.2.2.1
  have HKb := Lib.hid (show K ≤ 16384 ∧ a + m = n ∧ (0 ≤ wn ∧ wn ≤ 1073741824) ∧ n ≤ 1000000000 ∧ 0 < m ∧ min m (min mss.toNat (max 1 wn.toNat)) = K from ⟨by omega, hbl, hwin, hbig, hmp, eK⟩)
  have HEn := Lib.hid en
  have Ewn := Lib.hid ewn
  have c52 : w5.cell? ⟨g, 2, none⟩ = some (.int .i64 (a : Int)) := HT0.out.ref.c2
  clear c42 hbl hmb hwin hbig eK hmp en ewn
  go_wp2_with fail
  clear c52
  go_loopg [10] K (fun gk x10 wr => ∃ (t I cp : Nat) (Ap : Option Addr), Hid (gk + t = K) ∧ Hid (I = a + t) ∧ x10 = .int .i64 (I : Int) ∧ Hid (TkX w T g A c first W a s3 z y s.una Ap t cp (s.bs.take t) wr))
  case atStart => exact ⟨0, a, 0, none, Lib.hid (by omega), Lib.hid rfl, rfl, HT0⟩
  case round =>
    obtain ⟨t, I, cp, Ap, hgk, HI, rfl, HT⟩ := hrel
    obtain rfl : gk = K - t := by have := hgk.out; omega
    have htK : t ≤ K := by have := hgk.out; omega
    obtain ⟨b1, b2, b3, b4, b5, b6⟩ := HKb.out
    have hI := HI.out
    have HI3 := Lib.hid (show I < 1000016385 by omega)
    have HC3 := Lib.hid (show wr.cell? ⟨g, 0, none⟩ = some (.slice A n c) ∧ wr.cell? ⟨g, 4, none⟩ = some (.int .u32 wn) ∧ wr.cell? ⟨y, 1, none⟩ = some (.slice Ap t cp) from ⟨by rw [← HEn.out]; exact HT.out.ref.c0, by rw [← Ewn.out, show s.win = s3.win by rw [← Es3.out]]; exact HT.out.ref.c4, by rw [blk_cell HT.out.bp]; rfl⟩)
    have u5 : IntKind.i64.wrap wn = wn := by rw [IntKind.wrap_i64]; omega
    by_cases htl : t < K
    · have Hgk := Lib.hid (And.intro hgk.out htl)
      have HIn := Lib.hid (show I < n by omega)
      have q1 : (I : Int) < (n : Int) := by omega
      have q2 : (t : Int) < mss := by omega
      by_cases hw : (t : Int) < wn
      · have q3 := hw
        have q4 := hw
        clear hgk htK b1 b2 b3 b4 b5 b6 hI htl hw
        go_wp2_with fail
        refine wp_region_held_drew (S := fun w' => w'.cell? ⟨g, 0, none⟩ = some (.slice A n c) ∧ w'.cell? ⟨g, 4, none⟩ = some (.int .u32 wn) ∧ w'.cell? ⟨y, 1, none⟩ = some (.slice Ap t cp)) (by kernel_rfl) (by exact HC3.out) (fun hHeld => ?_)
        refine tk 0 ?_ rfl ?_ ?_
        rotate_left
        · intro w' hSw; (go_simp <;> (with_reducible rfl))
        try simp only [Act.put, putL]
        refine tk 1 ?_ rfl ?_ ?_
        rotate_left
        · intro w' hSw; (go_simp <;> (with_reducible rfl))
        try simp only [Act.put, putL]
        refine tk 2 ?_ rfl ?_ ?_
        rotate_left
        · intro w' hSw; (go_simp <;> (with_reducible rfl))
        try simp only [Act.put, putL]
        refine tk 3 ?_ rfl ?_ ?_
        rotate_left
        · intro w' hSw; (go_simp <;> (with_reducible rfl))
        try simp only [Act.put, putL]
        refine tk 4 ?_ rfl ?_ ?_
        rotate_left
        · intro w' hSw; (go_simp <;> (with_reducible rfl))
        try simp only [Act.put, putL]
        refine tk 5 ?_ rfl ?_ ?_
        rotate_left
        · intro w' hSw; (go_simp <;> (with_reducible rfl))
        try simp only [Act.put, putL]
        refine tk 6 ?_ rfl ?_ ?_
        rotate_left
        · intro w' hSw; (go_simp <;> (with_reducible rfl))
        try simp only [Act.put, putL]
        refine tk 7 ?_ rfl ?_ ?_
        rotate_left
        · intro w' hSw; (go_simp <;> (with_reducible rfl))
        try simp only [Act.put, putL]
        refine tk 8 ?_ rfl ?_ ?_
        rotate_left
        · intro w' hSw; (go_simp <;> (with_reducible rfl))
        try simp only [Act.put, putL]
        refine tk 9 ?_ rfl ?_ ?_
        rotate_left
        · intro w' hSw; (go_simp <;> (with_reducible rfl))
        try simp only [Act.put, putL]
        refine tk 10 ?_ rfl ?_ ?_
        rotate_left
        · intro w' hSw; (go_simp <;> (with_reducible rfl))
        try simp only [Act.put, putL]
        refine tk 11 ?_ rfl ?_ ?_
        rotate_left
        · intro w' hSw; (go_simp <;> (with_reducible rfl))
        try simp only [Act.put, putL]
        refine tk 12 ?_ rfl ?_ ?_
        rotate_left
        · intro w' hSw; (go_simp <;> (with_reducible rfl))
        try simp only [Act.put, putL]
        refine tk 13 ?_ rfl ?_ ?_
        rotate_left
        · intro w' hSw; (go_simp <;> (with_reducible rfl))
        try simp only [Act.put, putL]
        refine tk 14 ?_ rfl ?_ ?_
        rotate_left
        · intro w' hSw; (go_simp <;> (with_reducible rfl))
        try simp only [Act.put, putL]
        refine tk 15 ?_ rfl ?_ ?_
        rotate_left
        · intro w' hSw; (go_simp <;> (with_reducible rfl))
        try simp only [Act.put, putL]
        refine tk 16 ?_ rfl ?_ ?_
        rotate_left
        · intro w' hSw; (go_simp <;> (with_reducible rfl))
        try simp only [Act.put, putL]
        refine tk 17 ?_ rfl ?_ ?_
        rotate_left
        · intro w' hSw; (go_simp <;> (with_reducible rfl))
        try simp only [Act.put, putL]
        refine tk 18 ?_ rfl ?_ ?_
        rotate_left
        · intro w' hSw; (go_simp <;> (with_reducible rfl))
        try simp only [Act.put, putL]
        refine tk 19 ?_ rfl ?_ ?_
        rotate_left
        · intro w' hSw; (go_simp <;> (with_reducible rfl))
        try simp only [Act.put, putL]
        refine tk 20 ?_ rfl ?_ ?_
        rotate_left
        · intro w' hSw; (go_simp <;> (with_reducible rfl))
        try simp only [Act.put, putL]
        refine tk 21 ?_ rfl ?_ ?_
        rotate_left
        · intro w' hSw; (go_simp <;> (with_reducible rfl))
        try simp only [Act.put, putL]
        refine tk 22 ?_ rfl ?_ ?_
        rotate_left
        · intro w' hSw; (go_simp <;> (with_reducible rfl))
        try simp only [Act.put, putL]
        refine tk 23 ?_ rfl ?_ ?_
        rotate_left
        · intro w' hSw; (go_simp <;> (with_reducible rfl))
        try simp only [Act.put, putL]
        refine tk 24 ?_ rfl ?_ ?_
        rotate_left
        · intro w' hSw; (go_simp <;> (with_reducible rfl))
        try simp only [Act.put, putL]
        refine tkN 25 rfl ?_
        try simp only [Act.put, putL]
        refine tkN 26 rfl ?_
        try simp only [Act.put, putL]
        refine tkN 27 rfl ?_
        try simp only [Act.put, putL]
        refine tkN 28 rfl ?_
        try simp only [Act.put, putL]
        refine tk 29 ?_ rfl ?_ ?_
        rotate_left
        · intro w' hSw; (go_simp <;> (with_reducible rfl))
        try simp only [Act.put, putL]
        refine tk 30 ?_ rfl ?_ ?_
        rotate_left
        · intro w' hSw; (go_simp <;> (with_reducible rfl))
        try simp only [Act.put, putL]
        clear u5
        refine wpAnyH_done (by kernel_rfl) ?_ _
        clear hHeld
        obtain ⟨wv, ewv⟩ : ∃ v, wr.drew = v := ⟨_, rfl⟩
        have HTv := Lib.hid (show TkX w T g A c first W a s3 z y s.una Ap t cp (s.bs.take t) wv by rw [← ewv]; exact HT.out.drewN 1)
        rw [ewv]
        clear ewv q1 q2 q3 q4
        obtain ⟨p, hx, hc0, hp⟩ := HTv.out.ref.row.index (c := c) (j := I) (by rw [HEn.out]; exact HIn.out)
        obtain ⟨p2, hx2, -, hp2⟩ := H.out.row.index (c := c) (j := I) (by rw [HEn.out]; exact HIn.out)
        obtain rfl : p = p2 := by
          have e1 := hx w
          rw [hx2 w] at e1
          injection e1 with e1
          injection e1 with e1
          injection e1 with e1
          exact e1.symm
        rw [HEn.out] at hx
        obtain ⟨x, ex⟩ : ∃ x, W.getD I 0 = x := ⟨_, rfl⟩
        rw [ex] at hc0
        have hIW : I < W.length := by rw [HEn.out]; exact HIn.out
        have exl : W[I] = x := by rw [← ex, List.getD, List.getElem?_eq_getElem hIW]; rfl
        have hxb : 0 ≤ x ∧ x < 256 := by rw [← exl]; exact H.out.row.byte _ (List.getElem_mem hIW)
        obtain ⟨A2, c2, w7, hrun, hcg, hy1, hyf, hT2, hcp⟩ := HTv.out.more H.out.lt Hyz.out.1 Hyz.out.2.1 Hyz.out.2.2 (by have := HKb.out; have := Hgk.out; omega) x hxb
        have htk : s.bs.take t ++ [x] = s.bs.take (t + 1) := by
          have e1 : s.bs[t]? = some x := by rw [H.out.bs, List.getElem?_drop, ← HI.out, List.getElem?_eq_getElem hIW, exl]
          rw [List.take_add_one, e1]
          rfl
        rw [htk] at hT2
        have k0 : wv.cell? ⟨g, 0, none⟩ = some (.slice A n c) := by rw [← HEn.out]; exact HTv.out.ref.c0
        have k1 : wv.cell? ⟨y, 1, none⟩ = some (.slice Ap t cp) := by rw [blk_cell HTv.out.bp]; rfl
        have hbA : But (fun _ => False) wv (wv.drew.alloc (.cells #[.int .u8 x] 5)) := ((But.refl _ _).drew).alloc _
        have HSA := Lib.hid (show (wv.drew.alloc (.cells #[.int .u8 x] 5)).cell? ⟨y, 1, none⟩ = some (.slice Ap t cp) ∧ (wv.drew.alloc (.cells #[.int .u8 x] 5)).cell? ⟨g, 0, none⟩ = some (.slice A n c) ∧ (wv.drew.alloc (.cells #[.int .u8 x] 5)).cell? p = some (.int .u8 x) from
          ⟨(hbA.cell (p := ⟨y, 1, none⟩) (lt_of_block HTv.out.bp) (fun h => h)).trans k1, (hbA.cell (p := ⟨g, 0, none⟩) (HTv.out.ref.lt g HTv.out.ref.sg) (fun h => h)).trans k0, (hbA.cell (p := p) hp (fun h => h)).trans hc0⟩)
        have HS7 := Lib.hid (show w7.cell? ⟨y, 1, none⟩ = some (.slice Ap t cp) ∧ w7.cell? ⟨g, 0, none⟩ = some (.slice A n c) ∧ w7.cell? p = some (.int .u8 x) from ⟨hy1, hcg _ _ k0, hcp p _ hp2 hc0⟩)
        have HS0 := Lib.hid (show wv.drew.cell? ⟨y, 1, none⟩ = some (.slice Ap t cp) ∧ wv.drew.cell? ⟨g, 0, none⟩ = some (.slice A n c) ∧ wv.drew.cell? p = some (.int .u8 x) from ⟨k1, k0, hc0⟩)
        have HY7 := Lib.hid (And.intro hy1 hyf)
        have Hrun := Lib.hid hrun
        have HT2 := Lib.hid hT2
        clear hx2 hp2 hp hc0 ex hIW exl hxb hrun hcg hy1 hyf hT2 hcp htk k0 k1 hbA
        go_wp2_with fail
        refine wp_region_heldL (S := fun w' => w'.cell? ⟨y, 1, none⟩ = some (.slice Ap t cp) ∧ w'.cell? ⟨g, 0, none⟩ = some (.slice A n c) ∧ w'.cell? p = some (.int .u8 x)) 12 (by kernel_rfl) (by exact HS0.out) (fun hHeld => ?_)
        refine anyHL_take (i := 0) (oi := { dst := some 108, op := Go.Op.fieldAddr 57 (Go.Operand.tmp 9) 1, type := 0, pos := "ref.go:123", after := #[], guard := none }) (v := ?_) rfl (by kernel_rfl) (by kernel_rfl) (by kernel_rfl) (by kernel_rfl) (fun _ _ _ h => h) (Or.inl ⟨by rfl, ?_⟩) (by assumption) ?_
        rotate_left 1
        · intro w' hSw; (go_simp <;> (with_reducible rfl))
        (try simp only [Act.put, List.setIfInBounds_toArray, List.set_cons_zero, List.set_cons_succ])
        refine anyHL_take (i := 1) (oi := { dst := some 109, op := Go.Op.load 37 (Go.Operand.tmp 108), type := 37, pos := "ref.go:123", after := #[{ on := 0, ground := Go.Ground.data }], guard := none }) (v := ?_) rfl (by kernel_rfl) (by kernel_rfl) (by kernel_rfl) (by kernel_rfl) (fun _ _ _ h => h) (Or.inl ⟨by rfl, ?_⟩) (by assumption) ?_
        rotate_left 1
        · intro w' hSw; (go_simp <;> (with_reducible rfl))
        (try simp only [Act.put, List.setIfInBounds_toArray, List.set_cons_zero, List.set_cons_succ])
        refine anyHL_take (i := 2) (oi := { dst := some 110, op := Go.Op.move (Go.Operand.tmp 0), type := 31, pos := "ref.go:123", after := #[], guard := none }) (v := ?_) rfl (by kernel_rfl) (by kernel_rfl) (by kernel_rfl) (by kernel_rfl) (fun _ _ _ h => h) (Or.inl ⟨by rfl, ?_⟩) (by assumption) ?_
        rotate_left 1
        · intro w' hSw; (go_simp <;> (with_reducible rfl))
        (try simp only [Act.put, List.setIfInBounds_toArray, List.set_cons_zero, List.set_cons_succ])
        refine anyHL_take (i := 3) (oi := { dst := some 111, op := Go.Op.nilCheck (Go.Operand.tmp 110), type := 0, pos := "ref.go:123", after := #[{ on := 2, ground := Go.Ground.data }], guard := none }) (v := ?_) rfl (by kernel_rfl) (by kernel_rfl) (by kernel_rfl) (by kernel_rfl) (fun _ _ _ h => h) (Or.inl ⟨by rfl, ?_⟩) (by assumption) ?_
        rotate_left 1
        · intro w' hSw; (go_simp <;> (with_reducible rfl))
        (try simp only [Act.put, List.setIfInBounds_toArray, List.set_cons_zero, List.set_cons_succ])
        refine anyHL_take (i := 4) (oi := { dst := some 112, op := Go.Op.fieldAddr 64 (Go.Operand.tmp 111) 0, type := 0, pos := "ref.go:123", after := #[{ on := 3, ground := Go.Ground.data }], guard := none }) (v := ?_) rfl (by kernel_rfl) (by kernel_rfl) (by kernel_rfl) (by kernel_rfl) (fun _ _ _ h => h) (Or.inl ⟨by rfl, ?_⟩) (by assumption) ?_
        rotate_left 1
        · intro w' hSw; (go_simp <;> (with_reducible rfl))
        (try simp only [Act.put, List.setIfInBounds_toArray, List.set_cons_zero, List.set_cons_succ])
        refine anyHL_take (i := 5) (oi := { dst := some 113, op := Go.Op.load 37 (Go.Operand.tmp 112), type := 37, pos := "ref.go:123", after := #[{ on := 4, ground := Go.Ground.data }], guard := none }) (v := ?_) rfl (by kernel_rfl) (by kernel_rfl) (by kernel_rfl) (by kernel_rfl) (fun _ _ _ h => h) (Or.inl ⟨by rfl, ?_⟩) (by assumption) ?_
        rotate_left 1
        · intro w' hSw; (go_simp <;> (with_reducible rfl))
        (try simp only [Act.put, List.setIfInBounds_toArray, List.set_cons_zero, List.set_cons_succ])
        refine anyHL_take (i := 6) (oi := { dst := some 114, op := Go.Op.move (Go.Operand.tmp 10), type := 3, pos := "ref.go:123", after := #[], guard := none }) (v := ?_) rfl (by kernel_rfl) (by kernel_rfl) (by kernel_rfl) (by kernel_rfl) (fun _ _ _ h => h) (Or.inl ⟨by rfl, ?_⟩) (by assumption) ?_
        rotate_left 1
        · intro w' hSw; (go_simp <;> (with_reducible rfl))
        (try simp only [Act.put, List.setIfInBounds_toArray, List.set_cons_zero, List.set_cons_succ])
        refine anyHL_take (i := 7) (oi := { dst := some 115, op := Go.Op.indexAddr 37 (Go.Operand.tmp 113) (Go.Operand.tmp 114), type := 0, pos := "ref.go:123", after := #[{ on := 5, ground := Go.Ground.data }, { on := 6, ground := Go.Ground.data }], guard := none }) (v := ?_) rfl (by kernel_rfl) (by kernel_rfl) (by kernel_rfl) (by kernel_rfl) (fun _ _ _ h => h) (Or.inl ⟨by rfl, ?_⟩) (by assumption) ?_
        rotate_left 1
        · intro w' hSw; (go_simp <;> (with_reducible rfl))
        (try simp only [Act.put, List.setIfInBounds_toArray, List.set_cons_zero, List.set_cons_succ])
        refine anyHL_take (i := 8) (oi := { dst := some 116, op := Go.Op.load 5 (Go.Operand.tmp 115), type := 5, pos := "ref.go:123", after := #[{ on := 7, ground := Go.Ground.data }], guard := none }) (v := ?_) rfl (by kernel_rfl) (by kernel_rfl) (by kernel_rfl) (by kernel_rfl) (fun _ _ _ h => h) (Or.inl ⟨by rfl, ?_⟩) (by assumption) ?_
        rotate_left 1
        · intro w' hSw; (go_simp <;> (with_reducible rfl))
        (try simp only [Act.put, List.setIfInBounds_toArray, List.set_cons_zero, List.set_cons_succ])
        refine anyHL_one (i := 9) (o := { dst := some 117, op := Go.Op.buildSlice 37 1 #[(0, Go.Operand.tmp 116)], type := 37, pos := "ref.go:123", after := #[{ on := 8, ground := Go.Ground.data }], guard := none }) (by kernel_rfl) rfl (by kernel_rfl) (fun K hK => ?_)
        go_simp
        skip
        refine hK.out _ _ ?_ (fun hHeld => ?_)
        · exact HSA.out
        clear hK K
        (try simp only [Act.put, List.setIfInBounds_toArray, List.set_cons_zero, List.set_cons_succ])
        refine anyHL_one (i := 10) (o := { dst := some 118, op := Go.Op.call { callee := Go.Callee.builtin Go.Builtin.append, args := #[Go.Operand.tmp 109, Go.Operand.tmp 117], argTypes := #[37, 37] }, type := 37, pos := "ref.go:123", after := #[{ on := 1, ground := Go.Ground.data }, { on := 9, ground := Go.Ground.data }], guard := none }) (by kernel_rfl) rfl (by kernel_rfl) (fun K hK => ?_)
        refine step_appX rfl (.tmp 109) (.tmp 117) _ _ rfl rfl _ _ _ w7 rfl rfl Hrun.out ?_
        refine hK.out _ _ ?_ (fun hHeld => ?_)
        · exact HS7.out
        clear hK K
        (try simp only [Act.put, List.setIfInBounds_toArray, List.set_cons_zero, List.set_cons_succ])
        refine anyHL_take (i := 11) (oi := { dst := some 119, op := Go.Op.fieldAddr 57 (Go.Operand.tmp 9) 1, type := 0, pos := "ref.go:123", after := #[{ on := 0, ground := Go.Ground.phase }, { on := 1, ground := Go.Ground.phase }, { on := 2, ground := Go.Ground.phase }, { on := 3, ground := Go.Ground.phase }, { on := 4, ground := Go.Ground.phase }, { on := 5, ground := Go.Ground.phase }, { on := 6, ground := Go.Ground.phase }, { on := 7, ground := Go.Ground.phase }, { on := 8, ground := Go.Ground.phase }, { on := 9, ground := Go.Ground.phase }, { on := 10, ground := Go.Ground.phase }], guard := none }) (v := ?_) rfl (by kernel_rfl) (by kernel_rfl) (by kernel_rfl) (by kernel_rfl) (fun _ _ _ h => h) (Or.inl ⟨by rfl, ?_⟩) (by assumption) ?_
        rotate_left 1
        · intro w' hSw; (go_simp <;> (with_reducible rfl))
        (try simp only [Act.put, List.setIfInBounds_toArray, List.set_cons_zero, List.set_cons_succ])
        obtain ⟨d0, d1⟩ := HY7.out
        refine anyHL_last (o := { dst := none, op := Go.Op.store 37 (Go.Operand.tmp 119) (Go.Operand.tmp 118), type := 0, pos := "ref.go:123", after := #[{ on := 11, ground := Go.Ground.data }, { on := 10, ground := Go.Ground.data }, { on := 10, ground := Go.Ground.chain }, { on := 0, ground := Go.Ground.phase }, { on := 1, ground := Go.Ground.phase }, { on := 2, ground := Go.Ground.phase }, { on := 3, ground := Go.Ground.phase }, { on := 4, ground := Go.Ground.phase }, { on := 5, ground := Go.Ground.phase }, { on := 6, ground := Go.Ground.phase }, { on := 7, ground := Go.Ground.phase }, { on := 8, ground := Go.Ground.phase }, { on := 9, ground := Go.Ground.phase }, { on := 10, ground := Go.Ground.phase }], guard := none }) (by kernel_rfl) rfl (by kernel_rfl) (fun K hK => ?_)
        go_simp
        skip
        refine hK.out _ _ ?_
        clear hK K
        (try simp only [Act.put, List.setIfInBounds_toArray, List.set_cons_zero, List.set_cons_succ])
        clear hx
        have hI3 := HI3.out
        go_wp2_with fail
        go_roundg (K - (t + 1))
        case measure => have := Hgk.out; omega
        case rel => exact ⟨t + 1, I + 1, c2, A2, Lib.hid (by have := Hgk.out; omega), Lib.hid (by have := HI.out; omega), by go_num, HT2⟩
      · have q3 : ((t : Int) < wn) = False := eq_false hw
        have q4 : ((t : Int) == 0) = true := by rw [beq_iff_eq]; omega
        clear hgk htK b1 b2 b3 b4 b5 b6 hI htl hw
        go_wp2_with fail
        refine wp_region_held_drew (S := fun w' => w'.cell? ⟨g, 0, none⟩ = some (.slice A n c) ∧ w'.cell? ⟨g, 4, none⟩ = some (.int .u32 wn) ∧ w'.cell? ⟨y, 1, none⟩ = some (.slice Ap t cp)) (by kernel_rfl) (by exact HC3.out) (fun hHeld => ?_)
        refine tk 0 ?_ rfl ?_ ?_
        rotate_left
        · intro w' hSw; (go_simp <;> (with_reducible rfl))
        try simp only [Act.put, putL]
        refine tk 1 ?_ rfl ?_ ?_
        rotate_left
        · intro w' hSw; (go_simp <;> (with_reducible rfl))
        try simp only [Act.put, putL]
        refine tk 2 ?_ rfl ?_ ?_
        rotate_left
        · intro w' hSw; (go_simp <;> (with_reducible rfl))
        try simp only [Act.put, putL]
        refine tk 3 ?_ rfl ?_ ?_
        rotate_left
        · intro w' hSw; (go_simp <;> (with_reducible rfl))
        try simp only [Act.put, putL]
        refine tk 4 ?_ rfl ?_ ?_
        rotate_left
        · intro w' hSw; (go_simp <;> (with_reducible rfl))
        try simp only [Act.put, putL]
        refine tk 5 ?_ rfl ?_ ?_
        rotate_left
        · intro w' hSw; (go_simp <;> (with_reducible rfl))
        try simp only [Act.put, putL]
        refine tk 6 ?_ rfl ?_ ?_
        rotate_left
        · intro w' hSw; (go_simp <;> (with_reducible rfl))
        try simp only [Act.put, putL]
        refine tk 7 ?_ rfl ?_ ?_
        rotate_left
        · intro w' hSw; (go_simp <;> (with_reducible rfl))
        try simp only [Act.put, putL]
        refine tk 8 ?_ rfl ?_ ?_
        rotate_left
        · intro w' hSw; (go_simp <;> (with_reducible rfl))
        try simp only [Act.put, putL]
        refine tk 9 ?_ rfl ?_ ?_
        rotate_left
        · intro w' hSw; (go_simp <;> (with_reducible rfl))
        try simp only [Act.put, putL]
        refine tk 10 ?_ rfl ?_ ?_
        rotate_left
        · intro w' hSw; (go_simp <;> (with_reducible rfl))
        try simp only [Act.put, putL]
        refine tk 11 ?_ rfl ?_ ?_
        rotate_left
        · intro w' hSw; (go_simp <;> (with_reducible rfl))
        try simp only [Act.put, putL]
        refine tk 12 ?_ rfl ?_ ?_
        rotate_left
        · intro w' hSw; (go_simp <;> (with_reducible rfl))
        try simp only [Act.put, putL]
        refine tk 13 ?_ rfl ?_ ?_
        rotate_left
        · intro w' hSw; (go_simp <;> (with_reducible rfl))
        try simp only [Act.put, putL]
        refine tk 14 ?_ rfl ?_ ?_
        rotate_left
        · intro w' hSw; (go_simp <;> (with_reducible rfl))
        try simp only [Act.put, putL]
        refine tk 15 ?_ rfl ?_ ?_
        rotate_left
        · intro w' hSw; (go_simp <;> (with_reducible rfl))
        try simp only [Act.put, putL]
        refine tk 16 ?_ rfl ?_ ?_
        rotate_left
        · intro w' hSw; (go_simp <;> (with_reducible rfl))
        try simp only [Act.put, putL]
        refine tk 17 ?_ rfl ?_ ?_
        rotate_left
        · intro w' hSw; (go_simp <;> (with_reducible rfl))
        try simp only [Act.put, putL]
        refine tk 18 ?_ rfl ?_ ?_
        rotate_left
        · intro w' hSw; (go_simp <;> (with_reducible rfl))
        try simp only [Act.put, putL]
        refine tk 19 ?_ rfl ?_ ?_
        rotate_left
        · intro w' hSw; (go_simp <;> (with_reducible rfl))
        try simp only [Act.put, putL]
        refine tk 20 ?_ rfl ?_ ?_
        rotate_left
        · intro w' hSw; (go_simp <;> (with_reducible rfl))
        try simp only [Act.put, putL]
        refine tk 21 ?_ rfl ?_ ?_
        rotate_left
        · intro w' hSw; (go_simp <;> (with_reducible rfl))
        try simp only [Act.put, putL]
        refine tk 22 ?_ rfl ?_ ?_
        rotate_left
        · intro w' hSw; (go_simp <;> (with_reducible rfl))
        try simp only [Act.put, putL]
        refine tk 23 ?_ rfl ?_ ?_
        rotate_left
        · intro w' hSw; (go_simp <;> (with_reducible rfl))
        try simp only [Act.put, putL]
        refine tk 24 ?_ rfl ?_ ?_
        rotate_left
        · intro w' hSw; (go_simp <;> (with_reducible rfl))
        try simp only [Act.put, putL]
        refine tk 25 ?_ rfl ?_ ?_
        rotate_left
        · intro w' hSw; (go_simp <;> (with_reducible rfl))
        try simp only [Act.put, putL]
        refine tk 26 ?_ rfl ?_ ?_
        rotate_left
        · intro w' hSw; (go_simp <;> (with_reducible rfl))
        try simp only [Act.put, putL]
        refine tk 27 ?_ rfl ?_ ?_
        rotate_left
        · intro w' hSw; (go_simp <;> (with_reducible rfl))
        try simp only [Act.put, putL]
        refine tk 28 ?_ rfl ?_ ?_
        rotate_left
        · intro w' hSw; (go_simp <;> (with_reducible rfl))
        try simp only [Act.put, putL]
        refine tk 29 ?_ rfl ?_ ?_
        rotate_left
        · intro w' hSw; (go_simp <;> (with_reducible rfl))
        try simp only [Act.put, putL]
        refine tk 30 ?_ rfl ?_ ?_
        rotate_left
        · intro w' hSw; (go_simp <;> (with_reducible rfl))
        try simp only [Act.put, putL]
        clear u5
        refine wpAnyH_done (by kernel_rfl) ?_ _
        clear hHeld
        obtain ⟨wv, ewv⟩ : ∃ v, wr.drew = v := ⟨_, rfl⟩
        have HTv := Lib.hid (show TkX w T g A c first W a s3 z y s.una Ap t cp (s.bs.take t) wv by rw [← ewv]; exact HT.out.drewN 1)
        rw [ewv]
        clear ewv q1 q2 q3 q4
        obtain ⟨p, hx, hc0, hp⟩ := HTv.out.ref.row.index (c := c) (j := I) (by rw [HEn.out]; exact HIn.out)
        obtain ⟨p2, hx2, -, hp2⟩ := H.out.row.index (c := c) (j := I) (by rw [HEn.out]; exact HIn.out)
        obtain rfl : p = p2 := by
          have e1 := hx w
          rw [hx2 w] at e1
          injection e1 with e1
          injection e1 with e1
          injection e1 with e1
          exact e1.symm
        rw [HEn.out] at hx
        obtain ⟨x, ex⟩ : ∃ x, W.getD I 0 = x := ⟨_, rfl⟩
        rw [ex] at hc0
        have hIW : I < W.length := by rw [HEn.out]; exact HIn.out
        have exl : W[I] = x := by rw [← ex, List.getD, List.getElem?_eq_getElem hIW]; rfl
        have hxb : 0 ≤ x ∧ x < 256 := by rw [← exl]; exact H.out.row.byte _ (List.getElem_mem hIW)
        obtain ⟨A2, c2, w7, hrun, hcg, hy1, hyf, hT2, hcp⟩ := HTv.out.more H.out.lt Hyz.out.1 Hyz.out.2.1 Hyz.out.2.2 (by have := HKb.out; have := Hgk.out; omega) x hxb
        have htk : s.bs.take t ++ [x] = s.bs.take (t + 1) := by
          have e1 : s.bs[t]? = some x := by rw [H.out.bs, List.getElem?_drop, ← HI.out, List.getElem?_eq_getElem hIW, exl]
          rw [List.take_add_one, e1]
          rfl
        rw [htk] at hT2
        have k0 : wv.cell? ⟨g, 0, none⟩ = some (.slice A n c) := by rw [← HEn.out]; exact HTv.out.ref.c0
        have k1 : wv.cell? ⟨y, 1, none⟩ = some (.slice Ap t cp) := by rw [blk_cell HTv.out.bp]; rfl
        have hbA : But (fun _ => False) wv (wv.drew.alloc (.cells #[.int .u8 x] 5)) := ((But.refl _ _).drew).alloc _
        have HSA := Lib.hid (show (wv.drew.alloc (.cells #[.int .u8 x] 5)).cell? ⟨y, 1, none⟩ = some (.slice Ap t cp) ∧ (wv.drew.alloc (.cells #[.int .u8 x] 5)).cell? ⟨g, 0, none⟩ = some (.slice A n c) ∧ (wv.drew.alloc (.cells #[.int .u8 x] 5)).cell? p = some (.int .u8 x) from
          ⟨(hbA.cell (p := ⟨y, 1, none⟩) (lt_of_block HTv.out.bp) (fun h => h)).trans k1, (hbA.cell (p := ⟨g, 0, none⟩) (HTv.out.ref.lt g HTv.out.ref.sg) (fun h => h)).trans k0, (hbA.cell (p := p) hp (fun h => h)).trans hc0⟩)
        have HS7 := Lib.hid (show w7.cell? ⟨y, 1, none⟩ = some (.slice Ap t cp) ∧ w7.cell? ⟨g, 0, none⟩ = some (.slice A n c) ∧ w7.cell? p = some (.int .u8 x) from ⟨hy1, hcg _ _ k0, hcp p _ hp2 hc0⟩)
        have HS0 := Lib.hid (show wv.drew.cell? ⟨y, 1, none⟩ = some (.slice Ap t cp) ∧ wv.drew.cell? ⟨g, 0, none⟩ = some (.slice A n c) ∧ wv.drew.cell? p = some (.int .u8 x) from ⟨k1, k0, hc0⟩)
        have HY7 := Lib.hid (And.intro hy1 hyf)
        have Hrun := Lib.hid hrun
        have HT2 := Lib.hid hT2
        clear hx2 hp2 hp hc0 ex hIW exl hxb hrun hcg hy1 hyf hT2 hcp htk k0 k1 hbA
        go_wp2_with fail
        refine wp_region_heldL (S := fun w' => w'.cell? ⟨y, 1, none⟩ = some (.slice Ap t cp) ∧ w'.cell? ⟨g, 0, none⟩ = some (.slice A n c) ∧ w'.cell? p = some (.int .u8 x)) 12 (by kernel_rfl) (by exact HS0.out) (fun hHeld => ?_)
        refine anyHL_take (i := 0) (oi := { dst := some 108, op := Go.Op.fieldAddr 57 (Go.Operand.tmp 9) 1, type := 0, pos := "ref.go:123", after := #[], guard := none }) (v := ?_) rfl (by kernel_rfl) (by kernel_rfl) (by kernel_rfl) (by kernel_rfl) (fun _ _ _ h => h) (Or.inl ⟨by rfl, ?_⟩) (by assumption) ?_
        rotate_left 1
        · intro w' hSw; (go_simp <;> (with_reducible rfl))
        (try simp only [Act.put, List.setIfInBounds_toArray, List.set_cons_zero, List.set_cons_succ])
        refine anyHL_take (i := 1) (oi := { dst := some 109, op := Go.Op.load 37 (Go.Operand.tmp 108), type := 37, pos := "ref.go:123", after := #[{ on := 0, ground := Go.Ground.data }], guard := none }) (v := ?_) rfl (by kernel_rfl) (by kernel_rfl) (by kernel_rfl) (by kernel_rfl) (fun _ _ _ h => h) (Or.inl ⟨by rfl, ?_⟩) (by assumption) ?_
        rotate_left 1
        · intro w' hSw; (go_simp <;> (with_reducible rfl))
        (try simp only [Act.put, List.setIfInBounds_toArray, List.set_cons_zero, List.set_cons_succ])
        refine anyHL_take (i := 2) (oi := { dst := some 110, op := Go.Op.move (Go.Operand.tmp 0), type := 31, pos := "ref.go:123", after := #[], guard := none }) (v := ?_) rfl (by kernel_rfl) (by kernel_rfl) (by kernel_rfl) (by kernel_rfl) (fun _ _ _ h => h) (Or.inl ⟨by rfl, ?_⟩) (by assumption) ?_
        rotate_left 1
        · intro w' hSw; (go_simp <;> (with_reducible rfl))
        (try simp only [Act.put, List.setIfInBounds_toArray, List.set_cons_zero, List.set_cons_succ])
        refine anyHL_take (i := 3) (oi := { dst := some 111, op := Go.Op.nilCheck (Go.Operand.tmp 110), type := 0, pos := "ref.go:123", after := #[{ on := 2, ground := Go.Ground.data }], guard := none }) (v := ?_) rfl (by kernel_rfl) (by kernel_rfl) (by kernel_rfl) (by kernel_rfl) (fun _ _ _ h => h) (Or.inl ⟨by rfl, ?_⟩) (by assumption) ?_
        rotate_left 1
        · intro w' hSw; (go_simp <;> (with_reducible rfl))
        (try simp only [Act.put, List.setIfInBounds_toArray, List.set_cons_zero, List.set_cons_succ])
        refine anyHL_take (i := 4) (oi := { dst := some 112, op := Go.Op.fieldAddr 64 (Go.Operand.tmp 111) 0, type := 0, pos := "ref.go:123", after := #[{ on := 3, ground := Go.Ground.data }], guard := none }) (v := ?_) rfl (by kernel_rfl) (by kernel_rfl) (by kernel_rfl) (by kernel_rfl) (fun _ _ _ h => h) (Or.inl ⟨by rfl, ?_⟩) (by assumption) ?_
        rotate_left 1
        · intro w' hSw; (go_simp <;> (with_reducible rfl))
        (try simp only [Act.put, List.setIfInBounds_toArray, List.set_cons_zero, List.set_cons_succ])
        refine anyHL_take (i := 5) (oi := { dst := some 113, op := Go.Op.load 37 (Go.Operand.tmp 112), type := 37, pos := "ref.go:123", after := #[{ on := 4, ground := Go.Ground.data }], guard := none }) (v := ?_) rfl (by kernel_rfl) (by kernel_rfl) (by kernel_rfl) (by kernel_rfl) (fun _ _ _ h => h) (Or.inl ⟨by rfl, ?_⟩) (by assumption) ?_
        rotate_left 1
        · intro w' hSw; (go_simp <;> (with_reducible rfl))
        (try simp only [Act.put, List.setIfInBounds_toArray, List.set_cons_zero, List.set_cons_succ])
        refine anyHL_take (i := 6) (oi := { dst := some 114, op := Go.Op.move (Go.Operand.tmp 10), type := 3, pos := "ref.go:123", after := #[], guard := none }) (v := ?_) rfl (by kernel_rfl) (by kernel_rfl) (by kernel_rfl) (by kernel_rfl) (fun _ _ _ h => h) (Or.inl ⟨by rfl, ?_⟩) (by assumption) ?_
        rotate_left 1
        · intro w' hSw; (go_simp <;> (with_reducible rfl))
        (try simp only [Act.put, List.setIfInBounds_toArray, List.set_cons_zero, List.set_cons_succ])
        refine anyHL_take (i := 7) (oi := { dst := some 115, op := Go.Op.indexAddr 37 (Go.Operand.tmp 113) (Go.Operand.tmp 114), type := 0, pos := "ref.go:123", after := #[{ on := 5, ground := Go.Ground.data }, { on := 6, ground := Go.Ground.data }], guard := none }) (v := ?_) rfl (by kernel_rfl) (by kernel_rfl) (by kernel_rfl) (by kernel_rfl) (fun _ _ _ h => h) (Or.inl ⟨by rfl, ?_⟩) (by assumption) ?_
        rotate_left 1
        · intro w' hSw; (go_simp <;> (with_reducible rfl))
        (try simp only [Act.put, List.setIfInBounds_toArray, List.set_cons_zero, List.set_cons_succ])
        refine anyHL_take (i := 8) (oi := { dst := some 116, op := Go.Op.load 5 (Go.Operand.tmp 115), type := 5, pos := "ref.go:123", after := #[{ on := 7, ground := Go.Ground.data }], guard := none }) (v := ?_) rfl (by kernel_rfl) (by kernel_rfl) (by kernel_rfl) (by kernel_rfl) (fun _ _ _ h => h) (Or.inl ⟨by rfl, ?_⟩) (by assumption) ?_
        rotate_left 1
        · intro w' hSw; (go_simp <;> (with_reducible rfl))
        (try simp only [Act.put, List.setIfInBounds_toArray, List.set_cons_zero, List.set_cons_succ])
        refine anyHL_one (i := 9) (o := { dst := some 117, op := Go.Op.buildSlice 37 1 #[(0, Go.Operand.tmp 116)], type := 37, pos := "ref.go:123", after := #[{ on := 8, ground := Go.Ground.data }], guard := none }) (by kernel_rfl) rfl (by kernel_rfl) (fun K hK => ?_)
        go_simp
        skip
        refine hK.out _ _ ?_ (fun hHeld => ?_)
        · exact HSA.out
        clear hK K
        (try simp only [Act.put, List.setIfInBounds_toArray, List.set_cons_zero, List.set_cons_succ])
        refine anyHL_one (i := 10) (o := { dst := some 118, op := Go.Op.call { callee := Go.Callee.builtin Go.Builtin.append, args := #[Go.Operand.tmp 109, Go.Operand.tmp 117], argTypes := #[37, 37] }, type := 37, pos := "ref.go:123", after := #[{ on := 1, ground := Go.Ground.data }, { on := 9, ground := Go.Ground.data }], guard := none }) (by kernel_rfl) rfl (by kernel_rfl) (fun K hK => ?_)
        refine step_appX rfl (.tmp 109) (.tmp 117) _ _ rfl rfl _ _ _ w7 rfl rfl Hrun.out ?_
        refine hK.out _ _ ?_ (fun hHeld => ?_)
        · exact HS7.out
        clear hK K
        (try simp only [Act.put, List.setIfInBounds_toArray, List.set_cons_zero, List.set_cons_succ])
        refine anyHL_take (i := 11) (oi := { dst := some 119, op := Go.Op.fieldAddr 57 (Go.Operand.tmp 9) 1, type := 0, pos := "ref.go:123", after := #[{ on := 0, ground := Go.Ground.phase }, { on := 1, ground := Go.Ground.phase }, { on := 2, ground := Go.Ground.phase }, { on := 3, ground := Go.Ground.phase }, { on := 4, ground := Go.Ground.phase }, { on := 5, ground := Go.Ground.phase }, { on := 6, ground := Go.Ground.phase }, { on := 7, ground := Go.Ground.phase }, { on := 8, ground := Go.Ground.phase }, { on := 9, ground := Go.Ground.phase }, { on := 10, ground := Go.Ground.phase }], guard := none }) (v := ?_) rfl (by kernel_rfl) (by kernel_rfl) (by kernel_rfl) (by kernel_rfl) (fun _ _ _ h => h) (Or.inl ⟨by rfl, ?_⟩) (by assumption) ?_
        rotate_left 1
        · intro w' hSw; (go_simp <;> (with_reducible rfl))
        (try simp only [Act.put, List.setIfInBounds_toArray, List.set_cons_zero, List.set_cons_succ])
        obtain ⟨d0, d1⟩ := HY7.out
        refine anyHL_last (o := { dst := none, op := Go.Op.store 37 (Go.Operand.tmp 119) (Go.Operand.tmp 118), type := 0, pos := "ref.go:123", after := #[{ on := 11, ground := Go.Ground.data }, { on := 10, ground := Go.Ground.data }, { on := 10, ground := Go.Ground.chain }, { on := 0, ground := Go.Ground.phase }, { on := 1, ground := Go.Ground.phase }, { on := 2, ground := Go.Ground.phase }, { on := 3, ground := Go.Ground.phase }, { on := 4, ground := Go.Ground.phase }, { on := 5, ground := Go.Ground.phase }, { on := 6, ground := Go.Ground.phase }, { on := 7, ground := Go.Ground.phase }, { on := 8, ground := Go.Ground.phase }, { on := 9, ground := Go.Ground.phase }, { on := 10, ground := Go.Ground.phase }], guard := none }) (by kernel_rfl) rfl (by kernel_rfl) (fun K hK => ?_)
        go_simp
        skip
        refine hK.out _ _ ?_
        clear hK K
        (try simp only [Act.put, List.setIfInBounds_toArray, List.set_cons_zero, List.set_cons_succ])
        clear hx
        have hI3 := HI3.out
        go_wp2_with fail
        go_roundg (K - (t + 1))
        case measure => have := Hgk.out; omega
        case rel => exact ⟨t + 1, I + 1, c2, A2, Lib.hid (by have := Hgk.out; omega), Lib.hid (by have := HI.out; omega), by go_num, HT2⟩
    · obtain rfl : t = K := by omega
      by_cases hIn : I < n
      · have q1 : (I : Int) < (n : Int) := by omega
        by_cases hms : (t : Int) < mss
        · have q2 := hms
          have q3 : ((t : Int) < wn) = False := eq_false (by omega)
          have q4 : ((t : Int) == 0) = false := by rw [beq_eq_false_iff_ne]; omega
          clear hgk htK b1 b2 b3 b4 b5 b6 hI htl hIn hms
          go_wp2_with fail
          refine wp_region_held_drew (S := fun w' => w'.cell? ⟨g, 0, none⟩ = some (.slice A n c) ∧ w'.cell? ⟨g, 4, none⟩ = some (.int .u32 wn) ∧ w'.cell? ⟨y, 1, none⟩ = some (.slice Ap t cp)) (by kernel_rfl) (by exact HC3.out) (fun hHeld => ?_)
          refine tk 0 ?_ rfl ?_ ?_
          rotate_left
          · intro w' hSw; (go_simp <;> (with_reducible rfl))
          try simp only [Act.put, putL]
          refine tk 1 ?_ rfl ?_ ?_
          rotate_left
          · intro w' hSw; (go_simp <;> (with_reducible rfl))
          try simp only [Act.put, putL]
          refine tk 2 ?_ rfl ?_ ?_
          rotate_left
          · intro w' hSw; (go_simp <;> (with_reducible rfl))
          try simp only [Act.put, putL]
          refine tk 3 ?_ rfl ?_ ?_
          rotate_left
          · intro w' hSw; (go_simp <;> (with_reducible rfl))
          try simp only [Act.put, putL]
          refine tk 4 ?_ rfl ?_ ?_
          rotate_left
          · intro w' hSw; (go_simp <;> (with_reducible rfl))
          try simp only [Act.put, putL]
          refine tk 5 ?_ rfl ?_ ?_
          rotate_left
          · intro w' hSw; (go_simp <;> (with_reducible rfl))
          try simp only [Act.put, putL]
          refine tk 6 ?_ rfl ?_ ?_
          rotate_left
          · intro w' hSw; (go_simp <;> (with_reducible rfl))
          try simp only [Act.put, putL]
          refine tk 7 ?_ rfl ?_ ?_
          rotate_left
          · intro w' hSw; (go_simp <;> (with_reducible rfl))
          try simp only [Act.put, putL]
          refine tk 8 ?_ rfl ?_ ?_
          rotate_left
          · intro w' hSw; (go_simp <;> (with_reducible rfl))
          try simp only [Act.put, putL]
          refine tk 9 ?_ rfl ?_ ?_
          rotate_left
          · intro w' hSw; (go_simp <;> (with_reducible rfl))
          try simp only [Act.put, putL]
          refine tk 10 ?_ rfl ?_ ?_
          rotate_left
          · intro w' hSw; (go_simp <;> (with_reducible rfl))
          try simp only [Act.put, putL]
          refine tk 11 ?_ rfl ?_ ?_
          rotate_left
          · intro w' hSw; (go_simp <;> (with_reducible rfl))
          try simp only [Act.put, putL]
          refine tk 12 ?_ rfl ?_ ?_
          rotate_left
          · intro w' hSw; (go_simp <;> (with_reducible rfl))
          try simp only [Act.put, putL]
          refine tk 13 ?_ rfl ?_ ?_
          rotate_left
          · intro w' hSw; (go_simp <;> (with_reducible rfl))
          try simp only [Act.put, putL]
          refine tk 14 ?_ rfl ?_ ?_
          rotate_left
          · intro w' hSw; (go_simp <;> (with_reducible rfl))
          try simp only [Act.put, putL]
          refine tk 15 ?_ rfl ?_ ?_
          rotate_left
          · intro w' hSw; (go_simp <;> (with_reducible rfl))
          try simp only [Act.put, putL]
          refine tk 16 ?_ rfl ?_ ?_
          rotate_left
          · intro w' hSw; (go_simp <;> (with_reducible rfl))
          try simp only [Act.put, putL]
          refine tk 17 ?_ rfl ?_ ?_
          rotate_left
          · intro w' hSw; (go_simp <;> (with_reducible rfl))
          try simp only [Act.put, putL]
          refine tk 18 ?_ rfl ?_ ?_
          rotate_left
          · intro w' hSw; (go_simp <;> (with_reducible rfl))
          try simp only [Act.put, putL]
          refine tk 19 ?_ rfl ?_ ?_
          rotate_left
          · intro w' hSw; (go_simp <;> (with_reducible rfl))
          try simp only [Act.put, putL]
          refine tk 20 ?_ rfl ?_ ?_
          rotate_left
          · intro w' hSw; (go_simp <;> (with_reducible rfl))
          try simp only [Act.put, putL]
          refine tk 21 ?_ rfl ?_ ?_
          rotate_left
          · intro w' hSw; (go_simp <;> (with_reducible rfl))
          try simp only [Act.put, putL]
          refine tk 22 ?_ rfl ?_ ?_
          rotate_left
          · intro w' hSw; (go_simp <;> (with_reducible rfl))
          try simp only [Act.put, putL]
          refine tk 23 ?_ rfl ?_ ?_
          rotate_left
          · intro w' hSw; (go_simp <;> (with_reducible rfl))
          try simp only [Act.put, putL]
          refine tk 24 ?_ rfl ?_ ?_
          rotate_left
          · intro w' hSw; (go_simp <;> (with_reducible rfl))
          try simp only [Act.put, putL]
          refine tk 25 ?_ rfl ?_ ?_
          rotate_left
          · intro w' hSw; (go_simp <;> (with_reducible rfl))
          try simp only [Act.put, putL]
          refine tk 26 ?_ rfl ?_ ?_
          rotate_left
          · intro w' hSw; (go_simp <;> (with_reducible rfl))
          try simp only [Act.put, putL]
          refine tk 27 ?_ rfl ?_ ?_
          rotate_left
          · intro w' hSw; (go_simp <;> (with_reducible rfl))
          try simp only [Act.put, putL]
          refine tk 28 ?_ rfl ?_ ?_
          rotate_left
          · intro w' hSw; (go_simp <;> (with_reducible rfl))
          try simp only [Act.put, putL]
          refine tk 29 ?_ rfl ?_ ?_
          rotate_left
          · intro w' hSw; (go_simp <;> (with_reducible rfl))
          try simp only [Act.put, putL]
          refine tk 30 ?_ rfl ?_ ?_
          rotate_left
          · intro w' hSw; (go_simp <;> (with_reducible rfl))
          try simp only [Act.put, putL]
          clear u5
          refine wpAnyH_done (by kernel_rfl) ?_ _
          clear hHeld
          obtain ⟨wv, ewv⟩ : ∃ v, wr.drew = v := ⟨_, rfl⟩
          have HTv := Lib.hid (show TkX w T g A c first W a s3 z y s.una Ap t cp (s.bs.take t) wv by rw [← ewv]; exact HT.out.drewN 1)
          rw [ewv]
          clear ewv q1 q2 q3 q4
          obtain ⟨M, eM⟩ : ∃ M, a + s.sent = M := ⟨_, rfl⟩
          have EM := Lib.hid eM
          have k2 : wv.cell? ⟨g, 2, none⟩ = some (.int .i64 (a : Int)) := HTv.out.ref.c2
          have k3 : wv.cell? ⟨g, 3, none⟩ = some (.int .i64 (M : Int)) := by rw [← eM, show s.sent = s3.sent by rw [← Es3.out]]; exact HTv.out.ref.c3
          have k1 : wv.cell? ⟨y, 1, none⟩ = some (.slice Ap t cp) := by rw [blk_cell HTv.out.bp]; rfl
          have hsn := H.out.ok.sent
          rw [Heq.out.1] at hsn
          have u6 : IntKind.i64.wrap ((a : Int) + (t : Int)) = (I : Int) := by rw [IntKind.wrap_i64]; have := HI.out; have := HKb.out; omega
          have Hsn := Lib.hid hsn
          -- the end, whatever the world
          have HFin := Lib.hid (fun (wf : World) (s4 : XS) (hs4 : s4 = tickS mss now s) (h4 : TkX w T g A c first W a s4 z y s.una Ap t cp (s.bs.take t) wf) =>
            (show RTickX T g first W.length (tickS mss now s) (tickA mss now s) (tickB mss now s) (tickE mss now s) (tickD mss now s) w (.returned (.tuple #[.agg #[.int .u32 s.una, .slice Ap t cp], .bool true, .int .i64 0])) ((wf.setCell ⟨z, 0, none⟩ (.int .u32 s.una)).setCell ⟨z, 1, none⟩ (.slice Ap t cp)) ∧ ((wf.setCell ⟨z, 0, none⟩ (.int .u32 s.una)).setCell ⟨z, 1, none⟩ (.slice Ap t cp)).heap[z]? = some (.cells #[.int .u32 s.una, .slice Ap t cp] 57 (0, 0)) from by
              have hB : But (fun q => q = z) wf ((wf.setCell ⟨z, 0, none⟩ (.int .u32 s.una)).setCell ⟨z, 1, none⟩ (.slice Ap t cp)) := ((But.refl (fun q => q = z) wf).setCell (p := ⟨z, 0, none⟩) rfl _).setCell (p := ⟨z, 1, none⟩) rfl _
              have hzz := Hyz.out
              refine ⟨?_, by have := h4.bz; simp [World.setCell, Array.getElem?_modify, this]⟩
              subst hs4
              have hD : tickD mss now s = s.bs.take t := by
                have h6 := HKb.out.2.2.2.2.2
                unfold tickD
                rw [if_pos Hk4.out, Ewn.out, ← h6]
                rcases Nat.le_total m (min mss.toNat (max 1 wn.toNat)) with h7 | h7
                · rw [Nat.min_eq_left h7, List.take_of_length_le (by rw [Heq.out.1]; exact h7), List.take_of_length_le (by rw [Heq.out.1]; exact Nat.le_refl _)]
                · rw [Nat.min_eq_right h7]
              have e1 : tickA mss now s = s.una := by unfold tickA; rw [if_pos Hk4.out]
              have e2 : tickB mss now s = true := by unfold tickB; exact decide_eq_true Hk4.out
              have e3 : tickE mss now s = 0 := by unfold tickE; rw [Hk4.out]; rfl
              rw [e1, e2, e3, hD]
              refine ⟨Ap, t, cp, rfl, by rw [List.length_take, Heq.out.1]; have := HKb.out; omega, ?_, A, c, W, a, h4.ref.but hB (fun q hq e => by have := H.out.lt q hq; omega), h4.all.trans2 hB (fun q hq e => by omega), Nat.le_refl _⟩
              refine ⟨h4.own.1, ?_⟩
              have hno := own_not h4.own h4.bz (by decide)
              rcases h4.own.2 with h0 | ⟨g2, cap, cur, e, hBg, hc, hrest⟩
              · exact .inl h0
              · exact .inr ⟨g2, cap, cur, e, hBg, hB.blk hc (fun e2 => hno (by rw [e, ← e2]; rfl)), hrest⟩))
          have htS : tickS mss now s = { s3 with sent := max s.sent t } := by
            have h6 := HKb.out.2.2.2.2.2
            unfold tickS
            rw [if_pos Hk4.out, ← Es3.out, Heq.out.2.2.2.1, Heq.out.2.2.2.2, Eq2.out.1, Eq2.out.2.1, Eq2.out.2.2]
            have e4 : (tickD mss now s).length = t := by
              unfold tickD
              rw [if_pos Hk4.out, Ewn.out, List.length_take, Heq.out.1]
              omega
            rw [e4]
          have HtS := Lib.hid htS
          clear eM hsn htS
          go_wp2_with fail
          obtain ⟨wx, ewx⟩ : ∃ v, wv.drew = v := ⟨_, rfl⟩
          refine wp_region_held_drew (S := fun w' => w'.cell? ⟨g, 2, none⟩ = some (.int .i64 (a : Int)) ∧ w'.cell? ⟨g, 3, none⟩ = some (.int .i64 (M : Int)) ∧ w'.cell? ⟨y, 1, none⟩ = some (.slice Ap t cp)) (by kernel_rfl) (by exact ⟨k2, k3, k1⟩) (fun hHeld => ?_)
          refine tk 0 ?_ rfl ?_ ?_
          rotate_left
          · intro w' hSw; (go_simp <;> (with_reducible rfl))
          try simp only [Act.put, putL]
          refine tk 1 ?_ rfl ?_ ?_
          rotate_left
          · intro w' hSw; (go_simp <;> (with_reducible rfl))
          try simp only [Act.put, putL]
          refine tk 2 ?_ rfl ?_ ?_
          rotate_left
          · intro w' hSw; (go_simp <;> (with_reducible rfl))
          try simp only [Act.put, putL]
          refine tk 3 ?_ rfl ?_ ?_
          rotate_left
          · intro w' hSw; (go_simp <;> (with_reducible rfl))
          try simp only [Act.put, putL]
          refine tk 4 ?_ rfl ?_ ?_
          rotate_left
          · intro w' hSw; (go_simp <;> (with_reducible rfl))
          try simp only [Act.put, putL]
          refine tk 5 ?_ rfl ?_ ?_
          rotate_left
          · intro w' hSw; (go_simp <;> (with_reducible rfl))
          try simp only [Act.put, putL]
          refine tk 6 ?_ rfl ?_ ?_
          rotate_left
          · intro w' hSw; (go_simp <;> (with_reducible rfl))
          try simp only [Act.put, putL]
          refine tk 7 ?_ rfl ?_ ?_
          rotate_left
          · intro w' hSw; (go_simp <;> (with_reducible rfl))
          try simp only [Act.put, putL]
          refine tk 8 ?_ rfl ?_ ?_
          rotate_left
          · intro w' hSw; (go_simp <;> (with_reducible rfl))
          try simp only [Act.put, putL]
          refine tk 9 ?_ rfl ?_ ?_
          rotate_left
          · intro w' hSw; (go_simp <;> (with_reducible rfl))
          try simp only [Act.put, putL]
          refine tk 10 ?_ rfl ?_ ?_
          rotate_left
          · intro w' hSw; (go_simp <;> (with_reducible rfl))
          try simp only [Act.put, putL]
          refine tk 11 ?_ rfl ?_ ?_
          rotate_left
          · intro w' hSw; (go_simp <;> (with_reducible rfl))
          try simp only [Act.put, putL]
          refine tk 12 ?_ rfl ?_ ?_
          rotate_left
          · intro w' hSw; (go_simp <;> (with_reducible rfl))
          try simp only [Act.put, putL]
          refine wpAnyH_done (by kernel_rfl) ?_ _
          clear hHeld
          have HTx := Lib.hid (show TkX w T g A c first W a s3 z y s.una Ap t cp (s.bs.take t) wx by rw [← ewx]; exact HTv.out.drewN 1)
          rw [ewx]
          clear ewx k1 k2 k3
          by_cases hgt : M < I
          · have i5 : (M : Int) < (I : Int) := by omega
            have hIs := HI.out
            have hMs := EM.out
            have hts : s.sent < t := by omega
            obtain ⟨wy, ewy⟩ : ∃ v, wx.drew = v := ⟨_, rfl⟩
            have HTy := Lib.hid (show TkX w T g A c first W a s3 z y s.una Ap t cp (s.bs.take t) wy by rw [← ewy]; exact HTx.out.drewN 1)
            have hok4 : OkX { s3 with sent := max s.sent t } := by rw [← HtS.out]; exact tick_ok H.out.ok Hnum.out.1
            have hmx : max s.sent t = t := by omega
            obtain ⟨h4, hB4⟩ := HTy.out.ref.set (s' := { s3 with sent := max s.sent t }) 3 (.int .i64 (I : Int)) a HTy.out.ref.al (by rw [hmx, hIs]; rfl) HTy.out.ref.bs HTy.out.ref.una hok4
            have hyg := HTy.out.ref.lt g HTy.out.ref.sg
            have hgw := H.out.lt g H.out.sg
            have HTz := Lib.hid (show TkX w T g A c first W a { s3 with sent := max s.sent t } z y s.una Ap t cp (s.bs.take t) (wy.setCell ⟨g, 3, none⟩ (.int .i64 (I : Int))) from by
              have hzz := Hyz.out
              refine ⟨h4, hB4.blk HTy.out.bz (fun e => by omega), hB4.blk HTy.out.bp (fun e => by omega), HTy.out.own.but hB4 (fun q hq e => by omega), HTy.out.all.trans (but_g H.out hB4)⟩)
            have HEnd := Lib.hid (HFin.out _ _ HtS.out.symm HTz.out)
            have HSb := Lib.hid (show wy.cell? ⟨g, 2, none⟩ = some (.int .i64 (a : Int)) ∧ wy.cell? ⟨y, 1, none⟩ = some (.slice Ap t cp) from ⟨HTy.out.ref.c2, by rw [blk_cell HTy.out.bp]; rfl⟩)
            have HS3 := Lib.hid (show wy.cell? ⟨g, 3, none⟩ = some (.int .i64 (M : Int)) ∧ wy.frozen? ⟨g, 3, none⟩ = false from ⟨by rw [← EM.out, show s.sent = s3.sent by rw [← Es3.out]]; exact HTy.out.ref.c3, HTy.out.ref.free 3⟩)
            have HPz := Lib.hid (And.intro (show (wy.setCell ⟨g, 3, none⟩ (.int .i64 (I : Int))).cell? ⟨y, 0, none⟩ = some (.int .u32 s.una) by rw [blk_cell HTz.out.bp]; rfl) (And.intro (show (wy.setCell ⟨g, 3, none⟩ (.int .i64 (I : Int))).cell? ⟨y, 1, none⟩ = some (.slice Ap t cp) by rw [blk_cell HTz.out.bp]; rfl) (And.intro (show (wy.setCell ⟨g, 3, none⟩ (.int .i64 (I : Int))).cell? ⟨z, 0, none⟩ = some (.int .u32 0) by rw [blk_cell HTz.out.bz]; rfl) (And.intro (show (wy.setCell ⟨g, 3, none⟩ (.int .i64 (I : Int))).cell? ⟨z, 1, none⟩ = some (.slice none 0 0) by rw [blk_cell HTz.out.bz]; rfl) (And.intro (blk_free HTz.out.bz 0) (blk_free HTz.out.bz 1))))))
            clear hgt hIs hMs hts hok4 hmx h4 hB4 hyg hgw
            go_wp2_with fail
            refine wp_region_heldL (S := fun w' => w'.cell? ⟨g, 2, none⟩ = some (.int .i64 (a : Int)) ∧ w'.cell? ⟨y, 1, none⟩ = some (.slice Ap t cp)) 11 (by kernel_rfl) (by rw [ewy]; exact HSb.out) (fun hHeld => ?_)
            rw [ewy] at hHeld ⊢
            clear ewy
            refine anyHL_take (i := 0) (oi := { dst := some 133, op := Go.Op.move (Go.Operand.tmp 0), type := 31, pos := "ref.go:126", after := #[], guard := none }) (v := ?_) rfl (by kernel_rfl) (by kernel_rfl) (by kernel_rfl) (by kernel_rfl) (fun _ _ _ h => h) (Or.inl ⟨by rfl, ?_⟩) (by assumption) ?_
            rotate_left 1
            · intro w' hSw; (go_simp <;> (with_reducible rfl))
            (try simp only [Act.put, List.setIfInBounds_toArray, List.set_cons_zero, List.set_cons_succ])
            refine anyHL_take (i := 1) (oi := { dst := some 134, op := Go.Op.move (Go.Operand.tmp 0), type := 31, pos := "ref.go:126", after := #[], guard := none }) (v := ?_) rfl (by kernel_rfl) (by kernel_rfl) (by kernel_rfl) (by kernel_rfl) (fun _ _ _ h => h) (Or.inl ⟨by rfl, ?_⟩) (by assumption) ?_
            rotate_left 1
            · intro w' hSw; (go_simp <;> (with_reducible rfl))
            (try simp only [Act.put, List.setIfInBounds_toArray, List.set_cons_zero, List.set_cons_succ])
            refine anyHL_take (i := 2) (oi := { dst := some 135, op := Go.Op.nilCheck (Go.Operand.tmp 134), type := 0, pos := "ref.go:126", after := #[{ on := 1, ground := Go.Ground.data }], guard := none }) (v := ?_) rfl (by kernel_rfl) (by kernel_rfl) (by kernel_rfl) (by kernel_rfl) (fun _ _ _ h => h) (Or.inl ⟨by rfl, ?_⟩) (by assumption) ?_
            rotate_left 1
            · intro w' hSw; (go_simp <;> (with_reducible rfl))
            (try simp only [Act.put, List.setIfInBounds_toArray, List.set_cons_zero, List.set_cons_succ])
            refine anyHL_take (i := 3) (oi := { dst := some 136, op := Go.Op.fieldAddr 64 (Go.Operand.tmp 135) 2, type := 0, pos := "ref.go:126", after := #[{ on := 2, ground := Go.Ground.data }], guard := none }) (v := ?_) rfl (by kernel_rfl) (by kernel_rfl) (by kernel_rfl) (by kernel_rfl) (fun _ _ _ h => h) (Or.inl ⟨by rfl, ?_⟩) (by assumption) ?_
            rotate_left 1
            · intro w' hSw; (go_simp <;> (with_reducible rfl))
            (try simp only [Act.put, List.setIfInBounds_toArray, List.set_cons_zero, List.set_cons_succ])
            refine anyHL_take (i := 4) (oi := { dst := some 137, op := Go.Op.load 3 (Go.Operand.tmp 136), type := 3, pos := "ref.go:126", after := #[{ on := 3, ground := Go.Ground.data }], guard := none }) (v := ?_) rfl (by kernel_rfl) (by kernel_rfl) (by kernel_rfl) (by kernel_rfl) (fun _ _ _ h => h) (Or.inl ⟨by rfl, ?_⟩) (by assumption) ?_
            rotate_left 1
            · intro w' hSw; (go_simp <;> (with_reducible rfl))
            (try simp only [Act.put, List.setIfInBounds_toArray, List.set_cons_zero, List.set_cons_succ])
            refine anyHL_take (i := 5) (oi := { dst := some 138, op := Go.Op.fieldAddr 57 (Go.Operand.tmp 9) 1, type := 0, pos := "ref.go:126", after := #[], guard := none }) (v := ?_) rfl (by kernel_rfl) (by kernel_rfl) (by kernel_rfl) (by kernel_rfl) (fun _ _ _ h => h) (Or.inl ⟨by rfl, ?_⟩) (by assumption) ?_
            rotate_left 1
            · intro w' hSw; (go_simp <;> (with_reducible rfl))
            (try simp only [Act.put, List.setIfInBounds_toArray, List.set_cons_zero, List.set_cons_succ])
            refine anyHL_take (i := 6) (oi := { dst := some 139, op := Go.Op.load 37 (Go.Operand.tmp 138), type := 37, pos := "ref.go:126", after := #[{ on := 5, ground := Go.Ground.data }], guard := none }) (v := ?_) rfl (by kernel_rfl) (by kernel_rfl) (by kernel_rfl) (by kernel_rfl) (fun _ _ _ h => h) (Or.inl ⟨by rfl, ?_⟩) (by assumption) ?_
            rotate_left 1
            · intro w' hSw; (go_simp <;> (with_reducible rfl))
            (try simp only [Act.put, List.setIfInBounds_toArray, List.set_cons_zero, List.set_cons_succ])
            refine anyHL_take (i := 7) (oi := { dst := some 140, op := Go.Op.call { callee := Go.Callee.builtin Go.Builtin.len, args := #[Go.Operand.tmp 139], argTypes := #[37] }, type := 3, pos := "ref.go:126", after := #[{ on := 6, ground := Go.Ground.data }], guard := none }) (v := ?_) rfl (by kernel_rfl) (by kernel_rfl) (by kernel_rfl) (by kernel_rfl) (fun _ _ _ h => h) (Or.inl ⟨by rfl, ?_⟩) (by assumption) ?_
            rotate_left 1
            · intro w' hSw; (go_simp <;> (with_reducible rfl))
            (try simp only [Act.put, List.setIfInBounds_toArray, List.set_cons_zero, List.set_cons_succ])
            refine anyHL_take (i := 8) (oi := { dst := some 141, op := Go.Op.binOp Go.BinOp.add 3 (Go.Operand.tmp 137) (Go.Operand.tmp 140) 3, type := 3, pos := "ref.go:126", after := #[{ on := 4, ground := Go.Ground.data }, { on := 7, ground := Go.Ground.data }], guard := none }) (v := ?_) rfl (by kernel_rfl) (by kernel_rfl) (by kernel_rfl) (by kernel_rfl) (fun _ _ _ h => h) (Or.inl ⟨by rfl, ?_⟩) (by assumption) ?_
            rotate_left 1
            · intro w' hSw; (go_simp <;> (with_reducible rfl))
            (try simp only [Act.put, List.setIfInBounds_toArray, List.set_cons_zero, List.set_cons_succ])
            refine anyHL_one (i := 9) (o := { dst := some 142, op := Go.Op.nilCheck (Go.Operand.tmp 133), type := 0, pos := "ref.go:126", after := #[{ on := 0, ground := Go.Ground.data }, { on := 0, ground := Go.Ground.phase }, { on := 1, ground := Go.Ground.phase }, { on := 2, ground := Go.Ground.phase }, { on := 3, ground := Go.Ground.phase }, { on := 4, ground := Go.Ground.phase }, { on := 5, ground := Go.Ground.phase }, { on := 6, ground := Go.Ground.phase }, { on := 7, ground := Go.Ground.phase }, { on := 8, ground := Go.Ground.phase }], guard := none }) (by kernel_rfl) rfl (by kernel_rfl) (fun K hK => ?_)
            go_simp
            skip
            refine hK.out _ _ ?_ (fun hHeld => ?_)
            · exact HSb.out
            clear hK K
            (try simp only [Act.put, List.setIfInBounds_toArray, List.set_cons_zero, List.set_cons_succ])
            refine anyHL_take (i := 10) (oi := { dst := some 143, op := Go.Op.fieldAddr 64 (Go.Operand.tmp 142) 3, type := 0, pos := "ref.go:126", after := #[{ on := 9, ground := Go.Ground.data }, { on := 0, ground := Go.Ground.phase }, { on := 1, ground := Go.Ground.phase }, { on := 2, ground := Go.Ground.phase }, { on := 3, ground := Go.Ground.phase }, { on := 4, ground := Go.Ground.phase }, { on := 5, ground := Go.Ground.phase }, { on := 6, ground := Go.Ground.phase }, { on := 7, ground := Go.Ground.phase }, { on := 8, ground := Go.Ground.phase }], guard := none }) (v := ?_) rfl (by kernel_rfl) (by kernel_rfl) (by kernel_rfl) (by kernel_rfl) (fun _ _ _ h => h) (Or.inl ⟨by rfl, ?_⟩) (by assumption) ?_
            rotate_left 1
            · intro w' hSw; (go_simp <;> (with_reducible rfl))
            (try simp only [Act.put, List.setIfInBounds_toArray, List.set_cons_zero, List.set_cons_succ])
            obtain ⟨d0, d1⟩ := HS3.out
            refine anyHL_last (o := { dst := none, op := Go.Op.store 3 (Go.Operand.tmp 143) (Go.Operand.tmp 141), type := 0, pos := "ref.go:126", after := #[{ on := 10, ground := Go.Ground.data }, { on := 8, ground := Go.Ground.data }, { on := 0, ground := Go.Ground.phase }, { on := 1, ground := Go.Ground.phase }, { on := 2, ground := Go.Ground.phase }, { on := 3, ground := Go.Ground.phase }, { on := 4, ground := Go.Ground.phase }, { on := 5, ground := Go.Ground.phase }, { on := 6, ground := Go.Ground.phase }, { on := 7, ground := Go.Ground.phase }, { on := 8, ground := Go.Ground.phase }], guard := none }) (by kernel_rfl) rfl (by kernel_rfl) (fun K hK => ?_)
            go_simp
            skip
            refine hK.out _ _ ?_
            clear hK K
            (try simp only [Act.put, List.setIfInBounds_toArray, List.set_cons_zero, List.set_cons_succ])
            obtain ⟨wu, ewu⟩ : ∃ v, wy.setCell ⟨g, 3, none⟩ (.int .i64 (I : Int)) = v := ⟨_, rfl⟩
            rw [ewu] at HPz HEnd ⊢
            clear d0 d1
            obtain ⟨p0, p1, p2, p3, p4, p5⟩ := HPz.out
            go_wp2_with fail
            exact bodyPost_ret (v := .tuple #[.agg #[.int .u32 s.una, .slice Ap t cp], .bool true, .int .i64 0]) (results_rowX rfl _ _ z _ _ _ _ (.bool true) (.int .i64 0) rfl rfl rfl HEnd.out.2 Try.underlying57 rfl (by kernel_rfl)) rfl HEnd.out.1
          · have i5 : ((M : Int) < (I : Int)) = False := eq_false (by omega)
            have hIs := HI.out
            have hMs := EM.out
            have hmx : max s.sent t = s.sent := by omega
            have he3 : s3 = tickS mss now s := by
              rw [HtS.out, hmx, show s.sent = s3.sent by rw [← Es3.out]]
            have HEnd := Lib.hid (HFin.out wx s3 he3 HTx.out)
            have p0 : wx.cell? ⟨y, 0, none⟩ = some (.int .u32 s.una) := by rw [blk_cell HTx.out.bp]; rfl
            have p1 : wx.cell? ⟨y, 1, none⟩ = some (.slice Ap t cp) := by rw [blk_cell HTx.out.bp]; rfl
            have p2 : wx.cell? ⟨z, 0, none⟩ = some (.int .u32 0) := by rw [blk_cell HTx.out.bz]; rfl
            have p3 : wx.cell? ⟨z, 1, none⟩ = some (.slice none 0 0) := by rw [blk_cell HTx.out.bz]; rfl
            have p4 := blk_free HTx.out.bz 0
            have p5 := blk_free HTx.out.bz 1
            have i6 : ¬ (M : Int) < (I : Int) := by omega
            clear hgt hIs hMs hmx he3
            go_wp2_with fail
            exact bodyPost_ret (v := .tuple #[.agg #[.int .u32 s.una, .slice Ap t cp], .bool true, .int .i64 0]) (results_rowX rfl _ _ z _ _ _ _ (.bool true) (.int .i64 0) rfl rfl rfl HEnd.out.2 Try.underlying57 rfl (by kernel_rfl)) rfl HEnd.out.1
        · have q2 : ((t : Int) < mss) = False := eq_false hms
          have q3 := Hnum.out.1
          have q4 := q3
          clear hgk htK b1 b2 b3 b4 b5 b6 hI htl hIn hms
          go_wp2_with fail
          refine wp_region_held_drew (S := fun w' => w'.cell? ⟨g, 0, none⟩ = some (.slice A n c) ∧ w'.cell? ⟨g, 4, none⟩ = some (.int .u32 wn) ∧ w'.cell? ⟨y, 1, none⟩ = some (.slice Ap t cp)) (by kernel_rfl) (by exact HC3.out) (fun hHeld => ?_)
          refine tk 0 ?_ rfl ?_ ?_
          rotate_left
          · intro w' hSw; (go_simp <;> (with_reducible rfl))
          try simp only [Act.put, putL]
          refine tk 1 ?_ rfl ?_ ?_
          rotate_left
          · intro w' hSw; (go_simp <;> (with_reducible rfl))
          try simp only [Act.put, putL]
          refine tk 2 ?_ rfl ?_ ?_
          rotate_left
          · intro w' hSw; (go_simp <;> (with_reducible rfl))
          try simp only [Act.put, putL]
          refine tk 3 ?_ rfl ?_ ?_
          rotate_left
          · intro w' hSw; (go_simp <;> (with_reducible rfl))
          try simp only [Act.put, putL]
          refine tk 4 ?_ rfl ?_ ?_
          rotate_left
          · intro w' hSw; (go_simp <;> (with_reducible rfl))
          try simp only [Act.put, putL]
          refine tk 5 ?_ rfl ?_ ?_
          rotate_left
          · intro w' hSw; (go_simp <;> (with_reducible rfl))
          try simp only [Act.put, putL]
          refine tk 6 ?_ rfl ?_ ?_
          rotate_left
          · intro w' hSw; (go_simp <;> (with_reducible rfl))
          try simp only [Act.put, putL]
          refine tk 7 ?_ rfl ?_ ?_
          rotate_left
          · intro w' hSw; (go_simp <;> (with_reducible rfl))
          try simp only [Act.put, putL]
          refine tk 8 ?_ rfl ?_ ?_
          rotate_left
          · intro w' hSw; (go_simp <;> (with_reducible rfl))
          try simp only [Act.put, putL]
          refine tk 9 ?_ rfl ?_ ?_
          rotate_left
          · intro w' hSw; (go_simp <;> (with_reducible rfl))
          try simp only [Act.put, putL]
          refine tk 10 ?_ rfl ?_ ?_
          rotate_left
          · intro w' hSw; (go_simp <;> (with_reducible rfl))
          try simp only [Act.put, putL]
          refine tk 11 ?_ rfl ?_ ?_
          rotate_left
          · intro w' hSw; (go_simp <;> (with_reducible rfl))
          try simp only [Act.put, putL]
          refine tk 12 ?_ rfl ?_ ?_
          rotate_left
          · intro w' hSw; (go_simp <;> (with_reducible rfl))
          try simp only [Act.put, putL]
          refine tk 13 ?_ rfl ?_ ?_
          rotate_left
          · intro w' hSw; (go_simp <;> (with_reducible rfl))
          try simp only [Act.put, putL]
          refine tk 14 ?_ rfl ?_ ?_
          rotate_left
          · intro w' hSw; (go_simp <;> (with_reducible rfl))
          try simp only [Act.put, putL]
          refine tkN 15 rfl ?_
          try simp only [Act.put, putL]
          refine tkN 16 rfl ?_
          try simp only [Act.put, putL]
          refine tkN 17 rfl ?_
          try simp only [Act.put, putL]
          refine tkN 18 rfl ?_
          try simp only [Act.put, putL]
          refine tkN 19 rfl ?_
          try simp only [Act.put, putL]
          refine tkN 20 rfl ?_
          try simp only [Act.put, putL]
          refine tkN 21 rfl ?_
          try simp only [Act.put, putL]
          refine tkN 22 rfl ?_
          try simp only [Act.put, putL]
          refine tkN 23 rfl ?_
          try simp only [Act.put, putL]
          refine tkN 24 rfl ?_
          try simp only [Act.put, putL]
          refine tkN 25 rfl ?_
          try simp only [Act.put, putL]
          refine tkN 26 rfl ?_
          try simp only [Act.put, putL]
          refine tkN 27 rfl ?_
          try simp only [Act.put, putL]
          refine tkN 28 rfl ?_
          try simp only [Act.put, putL]
          refine tkN 29 rfl ?_
          try simp only [Act.put, putL]
          refine tk 30 ?_ rfl ?_ ?_
          rotate_left
          · intro w' hSw; (go_simp <;> (with_reducible rfl))
          try simp only [Act.put, putL]
          clear u5
          refine wpAnyH_done (by kernel_rfl) ?_ _
          clear hHeld
          obtain ⟨wv, ewv⟩ : ∃ v, wr.drew = v := ⟨_, rfl⟩
          have HTv := Lib.hid (show TkX w T g A c first W a s3 z y s.una Ap t cp (s.bs.take t) wv by rw [← ewv]; exact HT.out.drewN 1)
          rw [ewv]
          clear ewv q1 q2 q3 q4
          obtain ⟨M, eM⟩ : ∃ M, a + s.sent = M := ⟨_, rfl⟩
          have EM := Lib.hid eM
          have k2 : wv.cell? ⟨g, 2, none⟩ = some (.int .i64 (a : Int)) := HTv.out.ref.c2
          have k3 : wv.cell? ⟨g, 3, none⟩ = some (.int .i64 (M : Int)) := by rw [← eM, show s.sent = s3.sent by rw [← Es3.out]]; exact HTv.out.ref.c3
          have k1 : wv.cell? ⟨y, 1, none⟩ = some (.slice Ap t cp) := by rw [blk_cell HTv.out.bp]; rfl
          have hsn := H.out.ok.sent
          rw [Heq.out.1] at hsn
          have u6 : IntKind.i64.wrap ((a : Int) + (t : Int)) = (I : Int) := by rw [IntKind.wrap_i64]; have := HI.out; have := HKb.out; omega
          have Hsn := Lib.hid hsn
          -- the end, whatever the world
          have HFin := Lib.hid (fun (wf : World) (s4 : XS) (hs4 : s4 = tickS mss now s) (h4 : TkX w T g A c first W a s4 z y s.una Ap t cp (s.bs.take t) wf) =>
            (show RTickX T g first W.length (tickS mss now s) (tickA mss now s) (tickB mss now s) (tickE mss now s) (tickD mss now s) w (.returned (.tuple #[.agg #[.int .u32 s.una, .slice Ap t cp], .bool true, .int .i64 0])) ((wf.setCell ⟨z, 0, none⟩ (.int .u32 s.una)).setCell ⟨z, 1, none⟩ (.slice Ap t cp)) ∧ ((wf.setCell ⟨z, 0, none⟩ (.int .u32 s.una)).setCell ⟨z, 1, none⟩ (.slice Ap t cp)).heap[z]? = some (.cells #[.int .u32 s.una, .slice Ap t cp] 57 (0, 0)) from by
              have hB : But (fun q => q = z) wf ((wf.setCell ⟨z, 0, none⟩ (.int .u32 s.una)).setCell ⟨z, 1, none⟩ (.slice Ap t cp)) := ((But.refl (fun q => q = z) wf).setCell (p := ⟨z, 0, none⟩) rfl _).setCell (p := ⟨z, 1, none⟩) rfl _
              have hzz := Hyz.out
              refine ⟨?_, by have := h4.bz; simp [World.setCell, Array.getElem?_modify, this]⟩
              subst hs4
              have hD : tickD mss now s = s.bs.take t := by
                have h6 := HKb.out.2.2.2.2.2
                unfold tickD
                rw [if_pos Hk4.out, Ewn.out, ← h6]
                rcases Nat.le_total m (min mss.toNat (max 1 wn.toNat)) with h7 | h7
                · rw [Nat.min_eq_left h7, List.take_of_length_le (by rw [Heq.out.1]; exact h7), List.take_of_length_le (by rw [Heq.out.1]; exact Nat.le_refl _)]
                · rw [Nat.min_eq_right h7]
              have e1 : tickA mss now s = s.una := by unfold tickA; rw [if_pos Hk4.out]
              have e2 : tickB mss now s = true := by unfold tickB; exact decide_eq_true Hk4.out
              have e3 : tickE mss now s = 0 := by unfold tickE; rw [Hk4.out]; rfl
              rw [e1, e2, e3, hD]
              refine ⟨Ap, t, cp, rfl, by rw [List.length_take, Heq.out.1]; have := HKb.out; omega, ?_, A, c, W, a, h4.ref.but hB (fun q hq e => by have := H.out.lt q hq; omega), h4.all.trans2 hB (fun q hq e => by omega), Nat.le_refl _⟩
              refine ⟨h4.own.1, ?_⟩
              have hno := own_not h4.own h4.bz (by decide)
              rcases h4.own.2 with h0 | ⟨g2, cap, cur, e, hBg, hc, hrest⟩
              · exact .inl h0
              · exact .inr ⟨g2, cap, cur, e, hBg, hB.blk hc (fun e2 => hno (by rw [e, ← e2]; rfl)), hrest⟩))
          have htS : tickS mss now s = { s3 with sent := max s.sent t } := by
            have h6 := HKb.out.2.2.2.2.2
            unfold tickS
            rw [if_pos Hk4.out, ← Es3.out, Heq.out.2.2.2.1, Heq.out.2.2.2.2, Eq2.out.1, Eq2.out.2.1, Eq2.out.2.2]
            have e4 : (tickD mss now s).length = t := by
              unfold tickD
              rw [if_pos Hk4.out, Ewn.out, List.length_take, Heq.out.1]
              omega
            rw [e4]
          have HtS := Lib.hid htS
          clear eM hsn htS
          go_wp2_with fail
          obtain ⟨wx, ewx⟩ : ∃ v, wv.drew = v := ⟨_, rfl⟩
          refine wp_region_held_drew (S := fun w' => w'.cell? ⟨g, 2, none⟩ = some (.int .i64 (a : Int)) ∧ w'.cell? ⟨g, 3, none⟩ = some (.int .i64 (M : Int)) ∧ w'.cell? ⟨y, 1, none⟩ = some (.slice Ap t cp)) (by kernel_rfl) (by exact ⟨k2, k3, k1⟩) (fun hHeld => ?_)
          refine tk 0 ?_ rfl ?_ ?_
          rotate_left
          · intro w' hSw; (go_simp <;> (with_reducible rfl))
          try simp only [Act.put, putL]
          refine tk 1 ?_ rfl ?_ ?_
          rotate_left
          · intro w' hSw; (go_simp <;> (with_reducible rfl))
          try simp only [Act.put, putL]
          refine tk 2 ?_ rfl ?_ ?_
          rotate_left
          · intro w' hSw; (go_simp <;> (with_reducible rfl))
          try simp only [Act.put, putL]
          refine tk 3 ?_ rfl ?_ ?_
          rotate_left
          · intro w' hSw; (go_simp <;> (with_reducible rfl))
          try simp only [Act.put, putL]
          refine tk 4 ?_ rfl ?_ ?_
          rotate_left
          · intro w' hSw; (go_simp <;> (with_reducible rfl))
          try simp only [Act.put, putL]
          refine tk 5 ?_ rfl ?_ ?_
          rotate_left
          · intro w' hSw; (go_simp <;> (with_reducible rfl))
          try simp only [Act.put, putL]
          refine tk 6 ?_ rfl ?_ ?_
          rotate_left
          · intro w' hSw; (go_simp <;> (with_reducible rfl))
          try simp only [Act.put, putL]
          refine tk 7 ?_ rfl ?_ ?_
          rotate_left
          · intro w' hSw; (go_simp <;> (with_reducible rfl))
          try simp only [Act.put, putL]
          refine tk 8 ?_ rfl ?_ ?_
          rotate_left
          · intro w' hSw; (go_simp <;> (with_reducible rfl))
          try simp only [Act.put, putL]
          refine tk 9 ?_ rfl ?_ ?_
          rotate_left
          · intro w' hSw; (go_simp <;> (with_reducible rfl))
          try simp only [Act.put, putL]
          refine tk 10 ?_ rfl ?_ ?_
          rotate_left
          · intro w' hSw; (go_simp <;> (with_reducible rfl))
          try simp only [Act.put, putL]
          refine tk 11 ?_ rfl ?_ ?_
          rotate_left
          · intro w' hSw; (go_simp <;> (with_reducible rfl))
          try simp only [Act.put, putL]
          refine tk 12 ?_ rfl ?_ ?_
          rotate_left
          · intro w' hSw; (go_simp <;> (with_reducible rfl))
          try simp only [Act.put, putL]
          refine wpAnyH_done (by kernel_rfl) ?_ _
          clear hHeld
          have HTx := Lib.hid (show TkX w T g A c first W a s3 z y s.una Ap t cp (s.bs.take t) wx by rw [← ewx]; exact HTv.out.drewN 1)
          rw [ewx]
          clear ewx k1 k2 k3
          by_cases hgt : M < I
          · have i5 : (M : Int) < (I : Int) := by omega
            have hIs := HI.out
            have hMs := EM.out
            have hts : s.sent < t := by omega
            obtain ⟨wy, ewy⟩ : ∃ v, wx.drew = v := ⟨_, rfl⟩
            have HTy := Lib.hid (show TkX w T g A c first W a s3 z y s.una Ap t cp (s.bs.take t) wy by rw [← ewy]; exact HTx.out.drewN 1)
            have hok4 : OkX { s3 with sent := max s.sent t } := by rw [← HtS.out]; exact tick_ok H.out.ok Hnum.out.1
            have hmx : max s.sent t = t := by omega
            obtain ⟨h4, hB4⟩ := HTy.out.ref.set (s' := { s3 with sent := max s.sent t }) 3 (.int .i64 (I : Int)) a HTy.out.ref.al (by rw [hmx, hIs]; rfl) HTy.out.ref.bs HTy.out.ref.una hok4
            have hyg := HTy.out.ref.lt g HTy.out.ref.sg
            have hgw := H.out.lt g H.out.sg
            have HTz := Lib.hid (show TkX w T g A c first W a { s3 with sent := max s.sent t } z y s.una Ap t cp (s.bs.take t) (wy.setCell ⟨g, 3, none⟩ (.int .i64 (I : Int))) from by
              have hzz := Hyz.out
              refine ⟨h4, hB4.blk HTy.out.bz (fun e => by omega), hB4.blk HTy.out.bp (fun e => by omega), HTy.out.own.but hB4 (fun q hq e => by omega), HTy.out.all.trans (but_g H.out hB4)⟩)
            have HEnd := Lib.hid (HFin.out _ _ HtS.out.symm HTz.out)
            have HSb := Lib.hid (show wy.cell? ⟨g, 2, none⟩ = some (.int .i64 (a : Int)) ∧ wy.cell? ⟨y, 1, none⟩ = some (.slice Ap t cp) from ⟨HTy.out.ref.c2, by rw [blk_cell HTy.out.bp]; rfl⟩)
            have HS3 := Lib.hid (show wy.cell? ⟨g, 3, none⟩ = some (.int .i64 (M : Int)) ∧ wy.frozen? ⟨g, 3, none⟩ = false from ⟨by rw [← EM.out, show s.sent = s3.sent by rw [← Es3.out]]; exact HTy.out.ref.c3, HTy.out.ref.free 3⟩)
            have HPz := Lib.hid (And.intro (show (wy.setCell ⟨g, 3, none⟩ (.int .i64 (I : Int))).cell? ⟨y, 0, none⟩ = some (.int .u32 s.una) by rw [blk_cell HTz.out.bp]; rfl) (And.intro (show (wy.setCell ⟨g, 3, none⟩ (.int .i64 (I : Int))).cell? ⟨y, 1, none⟩ = some (.slice Ap t cp) by rw [blk_cell HTz.out.bp]; rfl) (And.intro (show (wy.setCell ⟨g, 3, none⟩ (.int .i64 (I : Int))).cell? ⟨z, 0, none⟩ = some (.int .u32 0) by rw [blk_cell HTz.out.bz]; rfl) (And.intro (show (wy.setCell ⟨g, 3, none⟩ (.int .i64 (I : Int))).cell? ⟨z, 1, none⟩ = some (.slice none 0 0) by rw [blk_cell HTz.out.bz]; rfl) (And.intro (blk_free HTz.out.bz 0) (blk_free HTz.out.bz 1))))))
            clear hgt hIs hMs hts hok4 hmx h4 hB4 hyg hgw
            go_wp2_with fail
            refine wp_region_heldL (S := fun w' => w'.cell? ⟨g, 2, none⟩ = some (.int .i64 (a : Int)) ∧ w'.cell? ⟨y, 1, none⟩ = some (.slice Ap t cp)) 11 (by kernel_rfl) (by rw [ewy]; exact HSb.out) (fun hHeld => ?_)
            rw [ewy] at hHeld ⊢
            clear ewy
            refine anyHL_take (i := 0) (oi := { dst := some 133, op := Go.Op.move (Go.Operand.tmp 0), type := 31, pos := "ref.go:126", after := #[], guard := none }) (v := ?_) rfl (by kernel_rfl) (by kernel_rfl) (by kernel_rfl) (by kernel_rfl) (fun _ _ _ h => h) (Or.inl ⟨by rfl, ?_⟩) (by assumption) ?_
            rotate_left 1
            · intro w' hSw; (go_simp <;> (with_reducible rfl))
            (try simp only [Act.put, List.setIfInBounds_toArray, List.set_cons_zero, List.set_cons_succ])
            refine anyHL_take (i := 1) (oi := { dst := some 134, op := Go.Op.move (Go.Operand.tmp 0), type := 31, pos := "ref.go:126", after := #[], guard := none }) (v := ?_) rfl (by kernel_rfl) (by kernel_rfl) (by kernel_rfl) (by kernel_rfl) (fun _ _ _ h => h) (Or.inl ⟨by rfl, ?_⟩) (by assumption) ?_
            rotate_left 1
            · intro w' hSw; (go_simp <;> (with_reducible rfl))
            (try simp only [Act.put, List.setIfInBounds_toArray, List.set_cons_zero, List.set_cons_succ])
            refine anyHL_take (i := 2) (oi := { dst := some 135, op := Go.Op.nilCheck (Go.Operand.tmp 134), type := 0, pos := "ref.go:126", after := #[{ on := 1, ground := Go.Ground.data }], guard := none }) (v := ?_) rfl (by kernel_rfl) (by kernel_rfl) (by kernel_rfl) (by kernel_rfl) (fun _ _ _ h => h) (Or.inl ⟨by rfl, ?_⟩) (by assumption) ?_
            rotate_left 1
            · intro w' hSw; (go_simp <;> (with_reducible rfl))
            (try simp only [Act.put, List.setIfInBounds_toArray, List.set_cons_zero, List.set_cons_succ])
            refine anyHL_take (i := 3) (oi := { dst := some 136, op := Go.Op.fieldAddr 64 (Go.Operand.tmp 135) 2, type := 0, pos := "ref.go:126", after := #[{ on := 2, ground := Go.Ground.data }], guard := none }) (v := ?_) rfl (by kernel_rfl) (by kernel_rfl) (by kernel_rfl) (by kernel_rfl) (fun _ _ _ h => h) (Or.inl ⟨by rfl, ?_⟩) (by assumption) ?_
            rotate_left 1
            · intro w' hSw; (go_simp <;> (with_reducible rfl))
            (try simp only [Act.put, List.setIfInBounds_toArray, List.set_cons_zero, List.set_cons_succ])
            refine anyHL_take (i := 4) (oi := { dst := some 137, op := Go.Op.load 3 (Go.Operand.tmp 136), type := 3, pos := "ref.go:126", after := #[{ on := 3, ground := Go.Ground.data }], guard := none }) (v := ?_) rfl (by kernel_rfl) (by kernel_rfl) (by kernel_rfl) (by kernel_rfl) (fun _ _ _ h => h) (Or.inl ⟨by rfl, ?_⟩) (by assumption) ?_
            rotate_left 1
            · intro w' hSw; (go_simp <;> (with_reducible rfl))
            (try simp only [Act.put, List.setIfInBounds_toArray, List.set_cons_zero, List.set_cons_succ])
            refine anyHL_take (i := 5) (oi := { dst := some 138, op := Go.Op.fieldAddr 57 (Go.Operand.tmp 9) 1, type := 0, pos := "ref.go:126", after := #[], guard := none }) (v := ?_) rfl (by kernel_rfl) (by kernel_rfl) (by kernel_rfl) (by kernel_rfl) (fun _ _ _ h => h) (Or.inl ⟨by rfl, ?_⟩) (by assumption) ?_
            rotate_left 1
            · intro w' hSw; (go_simp <;> (with_reducible rfl))
            (try simp only [Act.put, List.setIfInBounds_toArray, List.set_cons_zero, List.set_cons_succ])
            refine anyHL_take (i := 6) (oi := { dst := some 139, op := Go.Op.load 37 (Go.Operand.tmp 138), type := 37, pos := "ref.go:126", after := #[{ on := 5, ground := Go.Ground.data }], guard := none }) (v := ?_) rfl (by kernel_rfl) (by kernel_rfl) (by kernel_rfl) (by kernel_rfl) (fun _ _ _ h => h) (Or.inl ⟨by rfl, ?_⟩) (by assumption) ?_
            rotate_left 1
            · intro w' hSw; (go_simp <;> (with_reducible rfl))
            (try simp only [Act.put, List.setIfInBounds_toArray, List.set_cons_zero, List.set_cons_succ])
            refine anyHL_take (i := 7) (oi := { dst := some 140, op := Go.Op.call { callee := Go.Callee.builtin Go.Builtin.len, args := #[Go.Operand.tmp 139], argTypes := #[37] }, type := 3, pos := "ref.go:126", after := #[{ on := 6, ground := Go.Ground.data }], guard := none }) (v := ?_) rfl (by kernel_rfl) (by kernel_rfl) (by kernel_rfl) (by kernel_rfl) (fun _ _ _ h => h) (Or.inl ⟨by rfl, ?_⟩) (by assumption) ?_
            rotate_left 1
            · intro w' hSw; (go_simp <;> (with_reducible rfl))
            (try simp only [Act.put, List.setIfInBounds_toArray, List.set_cons_zero, List.set_cons_succ])
            refine anyHL_take (i := 8) (oi := { dst := some 141, op := Go.Op.binOp Go.BinOp.add 3 (Go.Operand.tmp 137) (Go.Operand.tmp 140) 3, type := 3, pos := "ref.go:126", after := #[{ on := 4, ground := Go.Ground.data }, { on := 7, ground := Go.Ground.data }], guard := none }) (v := ?_) rfl (by kernel_rfl) (by kernel_rfl) (by kernel_rfl) (by kernel_rfl) (fun _ _ _ h => h) (Or.inl ⟨by rfl, ?_⟩) (by assumption) ?_
            rotate_left 1
            · intro w' hSw; (go_simp <;> (with_reducible rfl))
            (try simp only [Act.put, List.setIfInBounds_toArray, List.set_cons_zero, List.set_cons_succ])
            refine anyHL_one (i := 9) (o := { dst := some 142, op := Go.Op.nilCheck (Go.Operand.tmp 133), type := 0, pos := "ref.go:126", after := #[{ on := 0, ground := Go.Ground.data }, { on := 0, ground := Go.Ground.phase }, { on := 1, ground := Go.Ground.phase }, { on := 2, ground := Go.Ground.phase }, { on := 3, ground := Go.Ground.phase }, { on := 4, ground := Go.Ground.phase }, { on := 5, ground := Go.Ground.phase }, { on := 6, ground := Go.Ground.phase }, { on := 7, ground := Go.Ground.phase }, { on := 8, ground := Go.Ground.phase }], guard := none }) (by kernel_rfl) rfl (by kernel_rfl) (fun K hK => ?_)
            go_simp
            skip
            refine hK.out _ _ ?_ (fun hHeld => ?_)
            · exact HSb.out
            clear hK K
            (try simp only [Act.put, List.setIfInBounds_toArray, List.set_cons_zero, List.set_cons_succ])
            refine anyHL_take (i := 10) (oi := { dst := some 143, op := Go.Op.fieldAddr 64 (Go.Operand.tmp 142) 3, type := 0, pos := "ref.go:126", after := #[{ on := 9, ground := Go.Ground.data }, { on := 0, ground := Go.Ground.phase }, { on := 1, ground := Go.Ground.phase }, { on := 2, ground := Go.Ground.phase }, { on := 3, ground := Go.Ground.phase }, { on := 4, ground := Go.Ground.phase }, { on := 5, ground := Go.Ground.phase }, { on := 6, ground := Go.Ground.phase }, { on := 7, ground := Go.Ground.phase }, { on := 8, ground := Go.Ground.phase }], guard := none }) (v := ?_) rfl (by kernel_rfl) (by kernel_rfl) (by kernel_rfl) (by kernel_rfl) (fun _ _ _ h => h) (Or.inl ⟨by rfl, ?_⟩) (by assumption) ?_
            rotate_left 1
            · intro w' hSw; (go_simp <;> (with_reducible rfl))
            (try simp only [Act.put, List.setIfInBounds_toArray, List.set_cons_zero, List.set_cons_succ])
            obtain ⟨d0, d1⟩ := HS3.out
            refine anyHL_last (o := { dst := none, op := Go.Op.store 3 (Go.Operand.tmp 143) (Go.Operand.tmp 141), type := 0, pos := "ref.go:126", after := #[{ on := 10, ground := Go.Ground.data }, { on := 8, ground := Go.Ground.data }, { on := 0, ground := Go.Ground.phase }, { on := 1, ground := Go.Ground.phase }, { on := 2, ground := Go.Ground.phase }, { on := 3, ground := Go.Ground.phase }, { on := 4, ground := Go.Ground.phase }, { on := 5, ground := Go.Ground.phase }, { on := 6, ground := Go.Ground.phase }, { on := 7, ground := Go.Ground.phase }, { on := 8, ground := Go.Ground.phase }], guard := none }) (by kernel_rfl) rfl (by kernel_rfl) (fun K hK => ?_)
            go_simp
            skip
            refine hK.out _ _ ?_
            clear hK K
            (try simp only [Act.put, List.setIfInBounds_toArray, List.set_cons_zero, List.set_cons_succ])
            obtain ⟨wu, ewu⟩ : ∃ v, wy.setCell ⟨g, 3, none⟩ (.int .i64 (I : Int)) = v := ⟨_, rfl⟩
            rw [ewu] at HPz HEnd ⊢
            clear d0 d1
            obtain ⟨p0, p1, p2, p3, p4, p5⟩ := HPz.out
            go_wp2_with fail
            exact bodyPost_ret (v := .tuple #[.agg #[.int .u32 s.una, .slice Ap t cp], .bool true, .int .i64 0]) (results_rowX rfl _ _ z _ _ _ _ (.bool true) (.int .i64 0) rfl rfl rfl HEnd.out.2 Try.underlying57 rfl (by kernel_rfl)) rfl HEnd.out.1
          · have i5 : ((M : Int) < (I : Int)) = False := eq_false (by omega)
            have hIs := HI.out
            have hMs := EM.out
            have hmx : max s.sent t = s.sent := by omega
            have he3 : s3 = tickS mss now s := by
              rw [HtS.out, hmx, show s.sent = s3.sent by rw [← Es3.out]]
            have HEnd := Lib.hid (HFin.out wx s3 he3 HTx.out)
            have p0 : wx.cell? ⟨y, 0, none⟩ = some (.int .u32 s.una) := by rw [blk_cell HTx.out.bp]; rfl
            have p1 : wx.cell? ⟨y, 1, none⟩ = some (.slice Ap t cp) := by rw [blk_cell HTx.out.bp]; rfl
            have p2 : wx.cell? ⟨z, 0, none⟩ = some (.int .u32 0) := by rw [blk_cell HTx.out.bz]; rfl
            have p3 : wx.cell? ⟨z, 1, none⟩ = some (.slice none 0 0) := by rw [blk_cell HTx.out.bz]; rfl
            have p4 := blk_free HTx.out.bz 0
            have p5 := blk_free HTx.out.bz 1
            have i6 : ¬ (M : Int) < (I : Int) := by omega
            clear hgt hIs hMs hmx he3
            go_wp2_with fail
            exact bodyPost_ret (v := .tuple #[.agg #[.int .u32 s.una, .slice Ap t cp], .bool true, .int .i64 0]) (results_rowX rfl _ _ z _ _ _ _ (.bool true) (.int .i64 0) rfl rfl rfl HEnd.out.2 Try.underlying57 rfl (by kernel_rfl)) rfl HEnd.out.1
      · have q1 : ((I : Int) < (n : Int)) = False := eq_false (by omega)
        have q2 := Hnum.out.1
        have q3 := q2
        have q4 := q2
        clear hgk htK b1 b2 b3 b4 b5 b6 hI htl hIn
        go_wp2_with fail
        refine wp_region_held_drew (S := fun w' => w'.cell? ⟨g, 0, none⟩ = some (.slice A n c) ∧ w'.cell? ⟨g, 4, none⟩ = some (.int .u32 wn) ∧ w'.cell? ⟨y, 1, none⟩ = some (.slice Ap t cp)) (by kernel_rfl) (by exact HC3.out) (fun hHeld => ?_)
        refine tk 0 ?_ rfl ?_ ?_
        rotate_left
        · intro w' hSw; (go_simp <;> (with_reducible rfl))
        try simp only [Act.put, putL]
        refine tk 1 ?_ rfl ?_ ?_
        rotate_left
        · intro w' hSw; (go_simp <;> (with_reducible rfl))
        try simp only [Act.put, putL]
        refine tk 2 ?_ rfl ?_ ?_
        rotate_left
        · intro w' hSw; (go_simp <;> (with_reducible rfl))
        try simp only [Act.put, putL]
        refine tk 3 ?_ rfl ?_ ?_
        rotate_left
        · intro w' hSw; (go_simp <;> (with_reducible rfl))
        try simp only [Act.put, putL]
        refine tk 4 ?_ rfl ?_ ?_
        rotate_left
        · intro w' hSw; (go_simp <;> (with_reducible rfl))
        try simp only [Act.put, putL]
        refine tk 5 ?_ rfl ?_ ?_
        rotate_left
        · intro w' hSw; (go_simp <;> (with_reducible rfl))
        try simp only [Act.put, putL]
        refine tk 6 ?_ rfl ?_ ?_
        rotate_left
        · intro w' hSw; (go_simp <;> (with_reducible rfl))
        try simp only [Act.put, putL]
        refine tk 7 ?_ rfl ?_ ?_
        rotate_left
        · intro w' hSw; (go_simp <;> (with_reducible rfl))
        try simp only [Act.put, putL]
        refine tkN 8 rfl ?_
        try simp only [Act.put, putL]
        refine tkN 9 rfl ?_
        try simp only [Act.put, putL]
        refine tkN 10 rfl ?_
        try simp only [Act.put, putL]
        refine tkN 11 rfl ?_
        try simp only [Act.put, putL]
        refine tkN 12 rfl ?_
        try simp only [Act.put, putL]
        refine tk 13 ?_ rfl ?_ ?_
        rotate_left
        · intro w' hSw; (go_simp <;> (with_reducible rfl))
        try simp only [Act.put, putL]
        refine tk 14 ?_ rfl ?_ ?_
        rotate_left
        · intro w' hSw; (go_simp <;> (with_reducible rfl))
        try simp only [Act.put, putL]
        refine tkN 15 rfl ?_
        try simp only [Act.put, putL]
        refine tkN 16 rfl ?_
        try simp only [Act.put, putL]
        refine tkN 17 rfl ?_
        try simp only [Act.put, putL]
        refine tkN 18 rfl ?_
        try simp only [Act.put, putL]
        refine tkN 19 rfl ?_
        try simp only [Act.put, putL]
        refine tkN 20 rfl ?_
        try simp only [Act.put, putL]
        refine tkN 21 rfl ?_
        try simp only [Act.put, putL]
        refine tkN 22 rfl ?_
        try simp only [Act.put, putL]
        refine tkN 23 rfl ?_
        try simp only [Act.put, putL]
        refine tkN 24 rfl ?_
        try simp only [Act.put, putL]
        refine tkN 25 rfl ?_
        try simp only [Act.put, putL]
        refine tkN 26 rfl ?_
        try simp only [Act.put, putL]
        refine tkN 27 rfl ?_
        try simp only [Act.put, putL]
        refine tkN 28 rfl ?_
        try simp only [Act.put, putL]
        refine tkN 29 rfl ?_
        try simp only [Act.put, putL]
        refine tk 30 ?_ rfl ?_ ?_
        rotate_left
        · intro w' hSw; (go_simp <;> (with_reducible rfl))
        try simp only [Act.put, putL]
        clear u5
        refine wpAnyH_done (by kernel_rfl) ?_ _
        clear hHeld
        obtain ⟨wv, ewv⟩ : ∃ v, wr.drew = v := ⟨_, rfl⟩
        have HTv := Lib.hid (show TkX w T g A c first W a s3 z y s.una Ap t cp (s.bs.take t) wv by rw [← ewv]; exact HT.out.drewN 1)
        rw [ewv]
        clear ewv q1 q2 q3 q4
        obtain ⟨M, eM⟩ : ∃ M, a + s.sent = M := ⟨_, rfl⟩
        have EM := Lib.hid eM
        have k2 : wv.cell? ⟨g, 2, none⟩ = some (.int .i64 (a : Int)) := HTv.out.ref.c2
        have k3 : wv.cell? ⟨g, 3, none⟩ = some (.int .i64 (M : Int)) := by rw [← eM, show s.sent = s3.sent by rw [← Es3.out]]; exact HTv.out.ref.c3
        have k1 : wv.cell? ⟨y, 1, none⟩ = some (.slice Ap t cp) := by rw [blk_cell HTv.out.bp]; rfl
        have hsn := H.out.ok.sent
        rw [Heq.out.1] at hsn
        have u6 : IntKind.i64.wrap ((a : Int) + (t : Int)) = (I : Int) := by rw [IntKind.wrap_i64]; have := HI.out; have := HKb.out; omega
        have Hsn := Lib.hid hsn
        -- the end, whatever the world
        have HFin := Lib.hid (fun (wf : World) (s4 : XS) (hs4 : s4 = tickS mss now s) (h4 : TkX w T g A c first W a s4 z y s.una Ap t cp (s.bs.take t) wf) =>
          (show RTickX T g first W.length (tickS mss now s) (tickA mss now s) (tickB mss now s) (tickE mss now s) (tickD mss now s) w (.returned (.tuple #[.agg #[.int .u32 s.una, .slice Ap t cp], .bool true, .int .i64 0])) ((wf.setCell ⟨z, 0, none⟩ (.int .u32 s.una)).setCell ⟨z, 1, none⟩ (.slice Ap t cp)) ∧ ((wf.setCell ⟨z, 0, none⟩ (.int .u32 s.una)).setCell ⟨z, 1, none⟩ (.slice Ap t cp)).heap[z]? = some (.cells #[.int .u32 s.una, .slice Ap t cp] 57 (0, 0)) from by
            have hB : But (fun q => q = z) wf ((wf.setCell ⟨z, 0, none⟩ (.int .u32 s.una)).setCell ⟨z, 1, none⟩ (.slice Ap t cp)) := ((But.refl (fun q => q = z) wf).setCell (p := ⟨z, 0, none⟩) rfl _).setCell (p := ⟨z, 1, none⟩) rfl _
            have hzz := Hyz.out
            refine ⟨?_, by have := h4.bz; simp [World.setCell, Array.getElem?_modify, this]⟩
            subst hs4
            have hD : tickD mss now s = s.bs.take t := by
              have h6 := HKb.out.2.2.2.2.2
              unfold tickD
              rw [if_pos Hk4.out, Ewn.out, ← h6]
              rcases Nat.le_total m (min mss.toNat (max 1 wn.toNat)) with h7 | h7
              · rw [Nat.min_eq_left h7, List.take_of_length_le (by rw [Heq.out.1]; exact h7), List.take_of_length_le (by rw [Heq.out.1]; exact Nat.le_refl _)]
              · rw [Nat.min_eq_right h7]
            have e1 : tickA mss now s = s.una := by unfold tickA; rw [if_pos Hk4.out]
            have e2 : tickB mss now s = true := by unfold tickB; exact decide_eq_true Hk4.out
            have e3 : tickE mss now s = 0 := by unfold tickE; rw [Hk4.out]; rfl
            rw [e1, e2, e3, hD]
            refine ⟨Ap, t, cp, rfl, by rw [List.length_take, Heq.out.1]; have := HKb.out; omega, ?_, A, c, W, a, h4.ref.but hB (fun q hq e => by have := H.out.lt q hq; omega), h4.all.trans2 hB (fun q hq e => by omega), Nat.le_refl _⟩
            refine ⟨h4.own.1, ?_⟩
            have hno := own_not h4.own h4.bz (by decide)
            rcases h4.own.2 with h0 | ⟨g2, cap, cur, e, hBg, hc, hrest⟩
            · exact .inl h0
            · exact .inr ⟨g2, cap, cur, e, hBg, hB.blk hc (fun e2 => hno (by rw [e, ← e2]; rfl)), hrest⟩))
        have htS : tickS mss now s = { s3 with sent := max s.sent t } := by
          have h6 := HKb.out.2.2.2.2.2
          unfold tickS
          rw [if_pos Hk4.out, ← Es3.out, Heq.out.2.2.2.1, Heq.out.2.2.2.2, Eq2.out.1, Eq2.out.2.1, Eq2.out.2.2]
          have e4 : (tickD mss now s).length = t := by
            unfold tickD
            rw [if_pos Hk4.out, Ewn.out, List.length_take, Heq.out.1]
            omega
          rw [e4]
        have HtS := Lib.hid htS
        clear eM hsn htS
        go_wp2_with fail
        obtain ⟨wx, ewx⟩ : ∃ v, wv.drew = v := ⟨_, rfl⟩
        refine wp_region_held_drew (S := fun w' => w'.cell? ⟨g, 2, none⟩ = some (.int .i64 (a : Int)) ∧ w'.cell? ⟨g, 3, none⟩ = some (.int .i64 (M : Int)) ∧ w'.cell? ⟨y, 1, none⟩ = some (.slice Ap t cp)) (by kernel_rfl) (by exact ⟨k2, k3, k1⟩) (fun hHeld => ?_)
        refine tk 0 ?_ rfl ?_ ?_
        rotate_left
        · intro w' hSw; (go_simp <;> (with_reducible rfl))
        try simp only [Act.put, putL]
        refine tk 1 ?_ rfl ?_ ?_
        rotate_left
        · intro w' hSw; (go_simp <;> (with_reducible rfl))
        try simp only [Act.put, putL]
        refine tk 2 ?_ rfl ?_ ?_
        rotate_left
        · intro w' hSw; (go_simp <;> (with_reducible rfl))
        try simp only [Act.put, putL]
        refine tk 3 ?_ rfl ?_ ?_
        rotate_left
        · intro w' hSw; (go_simp <;> (with_reducible rfl))
        try simp only [Act.put, putL]
        refine tk 4 ?_ rfl ?_ ?_
        rotate_left
        · intro w' hSw; (go_simp <;> (with_reducible rfl))
        try simp only [Act.put, putL]
        refine tk 5 ?_ rfl ?_ ?_
        rotate_left
        · intro w' hSw; (go_simp <;> (with_reducible rfl))
        try simp only [Act.put, putL]
        refine tk 6 ?_ rfl ?_ ?_
        rotate_left
        · intro w' hSw; (go_simp <;> (with_reducible rfl))
        try simp only [Act.put, putL]
        refine tk 7 ?_ rfl ?_ ?_
        rotate_left
        · intro w' hSw; (go_simp <;> (with_reducible rfl))
        try simp only [Act.put, putL]
        refine tk 8 ?_ rfl ?_ ?_
        rotate_left
        · intro w' hSw; (go_simp <;> (with_reducible rfl))
        try simp only [Act.put, putL]
        refine tk 9 ?_ rfl ?_ ?_
        rotate_left
        · intro w' hSw; (go_simp <;> (with_reducible rfl))
        try simp only [Act.put, putL]
        refine tk 10 ?_ rfl ?_ ?_
        rotate_left
        · intro w' hSw; (go_simp <;> (with_reducible rfl))
        try simp only [Act.put, putL]
        refine tk 11 ?_ rfl ?_ ?_
        rotate_left
        · intro w' hSw; (go_simp <;> (with_reducible rfl))
        try simp only [Act.put, putL]
        refine tk 12 ?_ rfl ?_ ?_
        rotate_left
        · intro w' hSw; (go_simp <;> (with_reducible rfl))
        try simp only [Act.put, putL]
        refine wpAnyH_done (by kernel_rfl) ?_ _
        clear hHeld
        have HTx := Lib.hid (show TkX w T g A c first W a s3 z y s.una Ap t cp (s.bs.take t) wx by rw [← ewx]; exact HTv.out.drewN 1)
        rw [ewx]
        clear ewx k1 k2 k3
        by_cases hgt : M < I
        · have i5 : (M : Int) < (I : Int) := by omega
          have hIs := HI.out
          have hMs := EM.out
          have hts : s.sent < t := by omega
          obtain ⟨wy, ewy⟩ : ∃ v, wx.drew = v := ⟨_, rfl⟩
          have HTy := Lib.hid (show TkX w T g A c first W a s3 z y s.una Ap t cp (s.bs.take t) wy by rw [← ewy]; exact HTx.out.drewN 1)
          have hok4 : OkX { s3 with sent := max s.sent t } := by rw [← HtS.out]; exact tick_ok H.out.ok Hnum.out.1
          have hmx : max s.sent t = t := by omega
          obtain ⟨h4, hB4⟩ := HTy.out.ref.set (s' := { s3 with sent := max s.sent t }) 3 (.int .i64 (I : Int)) a HTy.out.ref.al (by rw [hmx, hIs]; rfl) HTy.out.ref.bs HTy.out.ref.una hok4
          have hyg := HTy.out.ref.lt g HTy.out.ref.sg
          have hgw := H.out.lt g H.out.sg
          have HTz := Lib.hid (show TkX w T g A c first W a { s3 with sent := max s.sent t } z y s.una Ap t cp (s.bs.take t) (wy.setCell ⟨g, 3, none⟩ (.int .i64 (I : Int))) from by
            have hzz := Hyz.out
            refine ⟨h4, hB4.blk HTy.out.bz (fun e => by omega), hB4.blk HTy.out.bp (fun e => by omega), HTy.out.own.but hB4 (fun q hq e => by omega), HTy.out.all.trans (but_g H.out hB4)⟩)
          have HEnd := Lib.hid (HFin.out _ _ HtS.out.symm HTz.out)
          have HSb := Lib.hid (show wy.cell? ⟨g, 2, none⟩ = some (.int .i64 (a : Int)) ∧ wy.cell? ⟨y, 1, none⟩ = some (.slice Ap t cp) from ⟨HTy.out.ref.c2, by rw [blk_cell HTy.out.bp]; rfl⟩)
          have HS3 := Lib.hid (show wy.cell? ⟨g, 3, none⟩ = some (.int .i64 (M : Int)) ∧ wy.frozen? ⟨g, 3, none⟩ = false from ⟨by rw [← EM.out, show s.sent = s3.sent by rw [← Es3.out]]; exact HTy.out.ref.c3, HTy.out.ref.free 3⟩)
          have HPz := Lib.hid (And.intro (show (wy.setCell ⟨g, 3, none⟩ (.int .i64 (I : Int))).cell? ⟨y, 0, none⟩ = some (.int .u32 s.una) by rw [blk_cell HTz.out.bp]; rfl) (And.intro (show (wy.setCell ⟨g, 3, none⟩ (.int .i64 (I : Int))).cell? ⟨y, 1, none⟩ = some (.slice Ap t cp) by rw [blk_cell HTz.out.bp]; rfl) (And.intro (show (wy.setCell ⟨g, 3, none⟩ (.int .i64 (I : Int))).cell? ⟨z, 0, none⟩ = some (.int .u32 0) by rw [blk_cell HTz.out.bz]; rfl) (And.intro (show (wy.setCell ⟨g, 3, none⟩ (.int .i64 (I : Int))).cell? ⟨z, 1, none⟩ = some (.slice none 0 0) by rw [blk_cell HTz.out.bz]; rfl) (And.intro (blk_free HTz.out.bz 0) (blk_free HTz.out.bz 1))))))
          clear hgt hIs hMs hts hok4 hmx h4 hB4 hyg hgw
          go_wp2_with fail
          refine wp_region_heldL (S := fun w' => w'.cell? ⟨g, 2, none⟩ = some (.int .i64 (a : Int)) ∧ w'.cell? ⟨y, 1, none⟩ = some (.slice Ap t cp)) 11 (by kernel_rfl) (by rw [ewy]; exact HSb.out) (fun hHeld => ?_)
          rw [ewy] at hHeld ⊢
          clear ewy
          refine anyHL_take (i := 0) (oi := { dst := some 133, op := Go.Op.move (Go.Operand.tmp 0), type := 31, pos := "ref.go:126", after := #[], guard := none }) (v := ?_) rfl (by kernel_rfl) (by kernel_rfl) (by kernel_rfl) (by kernel_rfl) (fun _ _ _ h => h) (Or.inl ⟨by rfl, ?_⟩) (by assumption) ?_
          rotate_left 1
          · intro w' hSw; (go_simp <;> (with_reducible rfl))
          (try simp only [Act.put, List.setIfInBounds_toArray, List.set_cons_zero, List.set_cons_succ])
          refine anyHL_take (i := 1) (oi := { dst := some 134, op := Go.Op.move (Go.Operand.tmp 0), type := 31, pos := "ref.go:126", after := #[], guard := none }) (v := ?_) rfl (by kernel_rfl) (by kernel_rfl) (by kernel_rfl) (by kernel_rfl) (fun _ _ _ h => h) (Or.inl ⟨by rfl, ?_⟩) (by assumption) ?_
          rotate_left 1
          · intro w' hSw; (go_simp <;> (with_reducible rfl))
          (try simp only [Act.put, List.setIfInBounds_toArray, List.set_cons_zero, List.set_cons_succ])
          refine anyHL_take (i := 2) (oi := { dst := some 135, op := Go.Op.nilCheck (Go.Operand.tmp 134), type := 0, pos := "ref.go:126", after := #[{ on := 1, ground := Go.Ground.data }], guard := none }) (v := ?_) rfl (by kernel_rfl) (by kernel_rfl) (by kernel_rfl) (by kernel_rfl) (fun _ _ _ h => h) (Or.inl ⟨by rfl, ?_⟩) (by assumption) ?_
          rotate_left 1
          · intro w' hSw; (go_simp <;> (with_reducible rfl))
          (try simp only [Act.put, List.setIfInBounds_toArray, List.set_cons_zero, List.set_cons_succ])
          refine anyHL_take (i := 3) (oi := { dst := some 136, op := Go.Op.fieldAddr 64 (Go.Operand.tmp 135) 2, type := 0, pos := "ref.go:126", after := #[{ on := 2, ground := Go.Ground.data }], guard := none }) (v := ?_) rfl (by kernel_rfl) (by kernel_rfl) (by kernel_rfl) (by kernel_rfl) (fun _ _ _ h => h) (Or.inl ⟨by rfl, ?_⟩) (by assumption) ?_
          rotate_left 1
          · intro w' hSw; (go_simp <;> (with_reducible rfl))
          (try simp only [Act.put, List.setIfInBounds_toArray, List.set_cons_zero, List.set_cons_succ])
          refine anyHL_take (i := 4) (oi := { dst := some 137, op := Go.Op.load 3 (Go.Operand.tmp 136), type := 3, pos := "ref.go:126", after := #[{ on := 3, ground := Go.Ground.data }], guard := none }) (v := ?_) rfl (by kernel_rfl) (by kernel_rfl) (by kernel_rfl) (by kernel_rfl) (fun _ _ _ h => h) (Or.inl ⟨by rfl, ?_⟩) (by assumption) ?_
          rotate_left 1
          · intro w' hSw; (go_simp <;> (with_reducible rfl))
          (try simp only [Act.put, List.setIfInBounds_toArray, List.set_cons_zero, List.set_cons_succ])
          refine anyHL_take (i := 5) (oi := { dst := some 138, op := Go.Op.fieldAddr 57 (Go.Operand.tmp 9) 1, type := 0, pos := "ref.go:126", after := #[], guard := none }) (v := ?_) rfl (by kernel_rfl) (by kernel_rfl) (by kernel_rfl) (by kernel_rfl) (fun _ _ _ h => h) (Or.inl ⟨by rfl, ?_⟩) (by assumption) ?_
          rotate_left 1
          · intro w' hSw; (go_simp <;> (with_reducible rfl))
          (try simp only [Act.put, List.setIfInBounds_toArray, List.set_cons_zero, List.set_cons_succ])
          refine anyHL_take (i := 6) (oi := { dst := some 139, op := Go.Op.load 37 (Go.Operand.tmp 138), type := 37, pos := "ref.go:126", after := #[{ on := 5, ground := Go.Ground.data }], guard := none }) (v := ?_) rfl (by kernel_rfl) (by kernel_rfl) (by kernel_rfl) (by kernel_rfl) (fun _ _ _ h => h) (Or.inl ⟨by rfl, ?_⟩) (by assumption) ?_
          rotate_left 1
          · intro w' hSw; (go_simp <;> (with_reducible rfl))
          (try simp only [Act.put, List.setIfInBounds_toArray, List.set_cons_zero, List.set_cons_succ])
          refine anyHL_take (i := 7) (oi := { dst := some 140, op := Go.Op.call { callee := Go.Callee.builtin Go.Builtin.len, args := #[Go.Operand.tmp 139], argTypes := #[37] }, type := 3, pos := "ref.go:126", after := #[{ on := 6, ground := Go.Ground.data }], guard := none }) (v := ?_) rfl (by kernel_rfl) (by kernel_rfl) (by kernel_rfl) (by kernel_rfl) (fun _ _ _ h => h) (Or.inl ⟨by rfl, ?_⟩) (by assumption) ?_
          rotate_left 1
          · intro w' hSw; (go_simp <;> (with_reducible rfl))
          (try simp only [Act.put, List.setIfInBounds_toArray, List.set_cons_zero, List.set_cons_succ])
          refine anyHL_take (i := 8) (oi := { dst := some 141, op := Go.Op.binOp Go.BinOp.add 3 (Go.Operand.tmp 137) (Go.Operand.tmp 140) 3, type := 3, pos := "ref.go:126", after := #[{ on := 4, ground := Go.Ground.data }, { on := 7, ground := Go.Ground.data }], guard := none }) (v := ?_) rfl (by kernel_rfl) (by kernel_rfl) (by kernel_rfl) (by kernel_rfl) (fun _ _ _ h => h) (Or.inl ⟨by rfl, ?_⟩) (by assumption) ?_
          rotate_left 1
          · intro w' hSw; (go_simp <;> (with_reducible rfl))
          (try simp only [Act.put, List.setIfInBounds_toArray, List.set_cons_zero, List.set_cons_succ])
          refine anyHL_one (i := 9) (o := { dst := some 142, op := Go.Op.nilCheck (Go.Operand.tmp 133), type := 0, pos := "ref.go:126", after := #[{ on := 0, ground := Go.Ground.data }, { on := 0, ground := Go.Ground.phase }, { on := 1, ground := Go.Ground.phase }, { on := 2, ground := Go.Ground.phase }, { on := 3, ground := Go.Ground.phase }, { on := 4, ground := Go.Ground.phase }, { on := 5, ground := Go.Ground.phase }, { on := 6, ground := Go.Ground.phase }, { on := 7, ground := Go.Ground.phase }, { on := 8, ground := Go.Ground.phase }], guard := none }) (by kernel_rfl) rfl (by kernel_rfl) (fun K hK => ?_)
          go_simp
          skip
          refine hK.out _ _ ?_ (fun hHeld => ?_)
          · exact HSb.out
          clear hK K
          (try simp only [Act.put, List.setIfInBounds_toArray, List.set_cons_zero, List.set_cons_succ])
          refine anyHL_take (i := 10) (oi := { dst := some 143, op := Go.Op.fieldAddr 64 (Go.Operand.tmp 142) 3, type := 0, pos := "ref.go:126", after := #[{ on := 9, ground := Go.Ground.data }, { on := 0, ground := Go.Ground.phase }, { on := 1, ground := Go.Ground.phase }, { on := 2, ground := Go.Ground.phase }, { on := 3, ground := Go.Ground.phase }, { on := 4, ground := Go.Ground.phase }, { on := 5, ground := Go.Ground.phase }, { on := 6, ground := Go.Ground.phase }, { on := 7, ground := Go.Ground.phase }, { on := 8, ground := Go.Ground.phase }], guard := none }) (v := ?_) rfl (by kernel_rfl) (by kernel_rfl) (by kernel_rfl) (by kernel_rfl) (fun _ _ _ h => h) (Or.inl ⟨by rfl, ?_⟩) (by assumption) ?_
          rotate_left 1
          · intro w' hSw; (go_simp <;> (with_reducible rfl))
          (try simp only [Act.put, List.setIfInBounds_toArray, List.set_cons_zero, List.set_cons_succ])
          obtain ⟨d0, d1⟩ := HS3.out
          refine anyHL_last (o := { dst := none, op := Go.Op.store 3 (Go.Operand.tmp 143) (Go.Operand.tmp 141), type := 0, pos := "ref.go:126", after := #[{ on := 10, ground := Go.Ground.data }, { on := 8, ground := Go.Ground.data }, { on := 0, ground := Go.Ground.phase }, { on := 1, ground := Go.Ground.phase }, { on := 2, ground := Go.Ground.phase }, { on := 3, ground := Go.Ground.phase }, { on := 4, ground := Go.Ground.phase }, { on := 5, ground := Go.Ground.phase }, { on := 6, ground := Go.Ground.phase }, { on := 7, ground := Go.Ground.phase }, { on := 8, ground := Go.Ground.phase }], guard := none }) (by kernel_rfl) rfl (by kernel_rfl) (fun K hK => ?_)
          go_simp
          skip
          refine hK.out _ _ ?_
          clear hK K
          (try simp only [Act.put, List.setIfInBounds_toArray, List.set_cons_zero, List.set_cons_succ])
          obtain ⟨wu, ewu⟩ : ∃ v, wy.setCell ⟨g, 3, none⟩ (.int .i64 (I : Int)) = v := ⟨_, rfl⟩
          rw [ewu] at HPz HEnd ⊢
          clear d0 d1
          obtain ⟨p0, p1, p2, p3, p4, p5⟩ := HPz.out
          go_wp2_with fail
          exact bodyPost_ret (v := .tuple #[.agg #[.int .u32 s.una, .slice Ap t cp], .bool true, .int .i64 0]) (results_rowX rfl _ _ z _ _ _ _ (.bool true) (.int .i64 0) rfl rfl rfl HEnd.out.2 Try.underlying57 rfl (by kernel_rfl)) rfl HEnd.out.1
        · have i5 : ((M : Int) < (I : Int)) = False := eq_false (by omega)
          have hIs := HI.out
          have hMs := EM.out
          have hmx : max s.sent t = s.sent := by omega
          have he3 : s3 = tickS mss now s := by
            rw [HtS.out, hmx, show s.sent = s3.sent by rw [← Es3.out]]
          have HEnd := Lib.hid (HFin.out wx s3 he3 HTx.out)
          have p0 : wx.cell? ⟨y, 0, none⟩ = some (.int .u32 s.una) := by rw [blk_cell HTx.out.bp]; rfl
          have p1 : wx.cell? ⟨y, 1, none⟩ = some (.slice Ap t cp) := by rw [blk_cell HTx.out.bp]; rfl
          have p2 : wx.cell? ⟨z, 0, none⟩ = some (.int .u32 0) := by rw [blk_cell HTx.out.bz]; rfl
          have p3 : wx.cell? ⟨z, 1, none⟩ = some (.slice none 0 0) := by rw [blk_cell HTx.out.bz]; rfl
          have p4 := blk_free HTx.out.bz 0
          have p5 := blk_free HTx.out.bz 1
          have i6 : ¬ (M : Int) < (I : Int) := by omega
          clear hgt hIs hMs hmx he3
          go_wp2_with fail
          exact bodyPost_ret (v := .tuple #[.agg #[.int .u32 s.una, .slice Ap t cp], .bool true, .int .i64 0]) (results_rowX rfl _ _ z _ _ _ _ (.bool true) (.int .i64 0) rfl rfl rfl HEnd.out.2 Try.underlying57 rfl (by kernel_rfl)) rfl HEnd.out.1
theorem rtick19_any {w : World} {T : Nat → Prop} {g c a : Nat} {A : Option Addr} {first : Int} {W : List Int} {s : XS} (h : RefX w T g A c first W a s) (mss now : Int) (hn : 0 ≤ now ∧ now ≤ 4398046511104) :
    Calls Try.prog 23 #[.pointer (some ⟨g, 0, none⟩), .int .i64 mss, .int .u64 now] w (RTickX T g first W.length (tickS mss now s) (tickA mss now s) (tickB mss now s) (tickE mss now s) (tickD mss now s) w) := by
  by_cases hk : tickK mss now s = 4
  · exact rtick19_some h mss now hn hk
  · exact rtick19_none h mss now hn hk
end Go.Proofs.Ytncbkgcblmohoaa
