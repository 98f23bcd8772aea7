/-
  culvertlaw19's awake: the document's examples, over the face.
-/
import Derived.Test.YtncbkgcblmohoaaRxMany
import Derived.RegionTactic
import Derived.Deep.CutRange
namespace Go.Proofs.Ytncbkgcblmohoaa
set_option maxRecDepth 10000
open Go.RowKit
set_option linter.unusedSimpArgs false
set_option linter.unusedVariables false
variable {XAt : XA}

theorem is19_any (A : Option Addr) (n c : Nat) (l : List Int) (x : Int) (s : ByteArray) (w : World) (hr : Rd w A n l) (hs : strOfNums l = s) :
    Calls Try.prog 39 #[.agg #[.int .u32 x, .slice A n c], .int .u32 x, .string s] w (fun e w' => e = .returned (.bool true) ∧ Below w.heap.size w w') := by
  obtain ⟨w1, ew1⟩ : ∃ v, w.alloc (.cells #[.int .u32 x, .slice A n c] 54) = v := ⟨_, rfl⟩
  obtain ⟨z, ez⟩ : ∃ z, w.heap.size = z := ⟨_, rfl⟩
  have hb : Below w.heap.size w w1 := by rw [← ew1]; exact (Below.refl _ _).alloc (Nat.le_refl _) _
  have hk : w1.heap[z]? = some (.cells #[.int .u32 x, .slice A n c] 54 (0, 0)) := by rw [← ew1, ← ez]; exact heap_alloc_new w _
  have hcv := conv_rd (hr.below hb) c
  rw [hs] at hcv
  have k0 : w1.cell? ⟨z, 0, none⟩ = some (.int .u32 x) := by rw [blk_cell hk]; rfl
  have k1 : w1.cell? ⟨z, 1, none⟩ = some (.slice A n c) := by rw [blk_cell hk]; rfl
  have Hb := Lib.hid hb
  clear hb hk hr hs
  go_enter Try.func39, Try.ntmps39
  go_upto_region 1 with (fail)
  try rw [ew1]
  try rw [ez]
  clear ew1
  go_wp2_with fail
  go_ret
  exact ⟨rfl, Hb.out⟩
/-- A slice of pieces, read: where each lies, and its bytes. -/
structure PcAt (w : World) (g o : Nat) (q : PQ) : Prop where
  k0 : w.cell? ⟨g, o, none⟩ = some (.int .u32 q.seq)
  k1 : w.cell? ⟨g, o + 1, none⟩ = some (.slice q.A q.data.length q.c)
  rd : Rd w q.A q.data.length q.data
theorem flatQ_get (l : List PQ) {i : Nat} {q : PQ} (hi : l[i]? = some q) : (flatQ l)[i * 2]? = some (.int .u32 q.seq) ∧ (flatQ l)[i * 2 + 1]? = some (.slice q.A q.data.length q.c) := by
  induction l generalizing i with
  | nil => simp at hi
  | cons a l ih =>
    have e : flatQ (a :: l) = .int .u32 a.seq :: .slice a.A a.data.length a.c :: flatQ l := rfl
    rw [e]
    cases i with
    | zero =>
      simp at hi
      subst hi
      exact ⟨rfl, rfl⟩
    | succ i =>
      have := ih (i := i) (by simpa using hi)
      rw [show (i + 1) * 2 = i * 2 + 1 + 1 by omega]
      simpa using this
theorem PcsX.at_ {w : World} {PT : TypeId} {B : Nat} {v : Value} {qs : List PQ} (h : PcsX w PT B v qs) {i : Nat} {q : PQ} (hi : qs[i]? = some q) (hq : ∀ x ∈ q.data, 0 ≤ x ∧ x < 256) : ∃ g o c, v = .slice (some ⟨g, o, none⟩) qs.length c ∧ PcAt w g (o + i * 2) q := by
  have hl := (List.getElem?_eq_some_iff.1 hi).1
  obtain ⟨f1, f2⟩ := flatQ_get qs hi
  rcases h.sl with ⟨_, h0, _⟩ | ⟨g, o, c, rfl, C, hg, hC, hlen, hnc, hm, hc⟩
  · omega
  · have e2 := flatQ_len qs
    exact ⟨g, o, c, rfl, ⟨by rw [blk_cell hg, hc _ (by omega), f1], by rw [blk_cell hg, Nat.add_assoc, hc _ (by omega), f2], (h.rows q (List.mem_of_getElem? hi)).rd hq⟩⟩
def blkQ (v : Value) (qs : List PQ) : Nat → Prop := fun k => v.ownBlock = some k ∨ ∃ q ∈ qs, (rowQ q).ownBlock = some k
theorem rd_own {w w' : World} {V : Nat → Prop} {A : Option Addr} {n c : Nat} {l : List Int} (h : Rd w A n l) (hb : But V w w') (hn : ∀ b, (Value.slice A n c).ownBlock = some b → ¬ V b) : Rd w' A n l := h.but hb (fun g o e _ => hn g (by rw [e]; rfl))
theorem PcAt.but {w w' : World} {V : Nat → Prop} {g o : Nat} {q : PQ} (h : PcAt w g o q) (hb : But V w w') (hg : ¬ V g) (hr : ∀ b, (rowQ q).ownBlock = some b → ¬ V b) : PcAt w' g o q :=
  ⟨(hb.cell (p := ⟨g, o, none⟩) (World.block_lt_of_cell? w _ h.k0) hg).trans h.k0, (hb.cell (p := ⟨g, o + 1, none⟩) (World.block_lt_of_cell? w _ h.k1) hg).trans h.k1, rd_own h.rd hb hr⟩
theorem pcs_two {w : World} {PT : TypeId} {B : Nat} {v : Value} {qs : List PQ} (h : PcsX w PT B v qs) {a0 a1 : Int} {d0 d1 : List Int} (hq : qs.map toldQ = [(a0, d0), (a1, d1)]) (h0 : ∀ x ∈ d0, 0 ≤ x ∧ x < 256) (h1 : ∀ x ∈ d1, 0 ≤ x ∧ x < 256) :
    ∃ (g o c : Nat) (A0 A1 : Option Addr) (c0 c1 : Nat), v = .slice (some ⟨g, o, none⟩) 2 c ∧ ∀ (W : World) (V : Nat → Prop), But V w W → (∀ k, blkQ v qs k → ¬ V k) → PcAt W g o ⟨a0, A0, c0, d0⟩ ∧ PcAt W g (o + 2) ⟨a1, A1, c1, d1⟩ := by
  match qs, hq with
  | [⟨s0, A0, c0, e0⟩, ⟨s1, A1, c1, e1⟩], hq =>
    simp only [List.map_cons, List.map_nil, toldQ, List.cons.injEq, Prod.mk.injEq, and_true] at hq
    obtain ⟨⟨rfl, rfl⟩, rfl, rfl⟩ := hq
    obtain ⟨g, o, c, rfl, p0⟩ := h.at_ (i := 0) rfl h0
    obtain ⟨g', o', c', e, p1⟩ := h.at_ (i := 1) rfl h1
    injection e with e _ e3
    injection e with e
    injection e with e4 e5
    subst e4
    subst e5
    refine ⟨g, o, c, A0, A1, c0, c1, rfl, fun W V hb hV => ⟨PcAt.but (by simpa using p0) hb (hV g (.inl rfl)) (fun b hb2 => hV b (.inr ⟨_, List.mem_cons_self, hb2⟩)), PcAt.but (by simpa using p1) hb (hV g (.inl rfl)) (fun b hb2 => hV b (.inr ⟨_, List.mem_cons_of_mem _ List.mem_cons_self, hb2⟩))⟩⟩
theorem pcs_one {w : World} {PT : TypeId} {B : Nat} {v : Value} {qs : List PQ} (h : PcsX w PT B v qs) {a0 : Int} {d0 : List Int} (hq : qs.map toldQ = [(a0, d0)]) (h0 : ∀ x ∈ d0, 0 ≤ x ∧ x < 256) :
    ∃ (g o c : Nat) (A0 : Option Addr) (c0 : Nat), v = .slice (some ⟨g, o, none⟩) 1 c ∧ ∀ (W : World) (V : Nat → Prop), But V w W → (∀ k, blkQ v qs k → ¬ V k) → PcAt W g o ⟨a0, A0, c0, d0⟩ := by
  match qs, hq with
  | [⟨s0, A0, c0, e0⟩], hq =>
    simp only [List.map_cons, List.map_nil, toldQ, List.cons.injEq, Prod.mk.injEq, and_true] at hq
    obtain ⟨rfl, rfl⟩ := hq
    obtain ⟨g, o, c, rfl, p0⟩ := h.at_ (i := 0) rfl h0
    exact ⟨g, o, c, A0, c0, rfl, fun W V hb hV => PcAt.but (by simpa using p0) hb (hV g (.inl rfl)) (fun b hb2 => hV b (.inr ⟨_, List.mem_cons_self, hb2⟩))⟩
theorem pcs_no {w : World} {PT : TypeId} {B : Nat} {v : Value} {qs : List PQ} (h : PcsX w PT B v qs) (hq : qs.map toldQ = []) : ∃ A c, v = .slice A 0 c := by
  have : qs = [] := by simpa using hq
  subst this
  exact h.sl.form
def aw1 : XS := writeS [97, 98, 99, 100, 101, 102] 0 (newX 100 4 3 2)
def aw2 : XS := sendS 3 aw1
def aw3 : XS := sendS 3 aw2
def aw4 : XS := ackS 102 4 1 aw3
def aw5 : XS := sendS 3 aw4
def aw6 : XS := tickS 3 3 aw5
def aw7 : XS := tickS 3 4 aw6
def aw8 : XS := tickS 3 10 aw7
theorem aw_v1 : writeE [97, 98, 99, 100, 101, 102] (newX 100 4 3 2) = 0 ∧ sendL 3 aw1 = [(100, [97, 98, 99]), (103, [100])] ∧ sendL 3 aw2 = [] ∧ ackN 102 4 aw3 = 2 ∧ ackE 102 4 aw3 = 0 ∧ sendL 3 aw4 = [(104, [101, 102])] := by decide +kernel
theorem aw_v2 : tickB 3 3 aw5 = false ∧ tickB 3 4 aw6 = true ∧ tickD 3 4 aw6 = [99, 100, 101] ∧ tickA 3 4 aw6 = 102 ∧ tickB 3 10 aw7 = true ∧ tickD 3 10 aw7 = [99, 100, 101] ∧ tickA 3 10 aw7 = 102 ∧ tickE 3 22 aw8 = 7 := by decide +kernel
theorem str_abc : strOfNums [97, 98, 99] = { data := #[97, 98, 99] } ∧ strOfNums [100] = { data := #[100] } ∧ strOfNums [101, 102] = { data := #[101, 102] } ∧ strOfNums [99, 100, 101] = { data := #[99, 100, 101] } := ⟨rfl, rfl, rfl, rfl⟩
/-- Write of bytes that the walk has just laid. -/
theorem ywrite_lit (F : XFace XAt) (Z : Nat → Prop) (i g : Nat) (s : XS) (ws ws' : MX) (w0 w : World) (h : AtX XAt Z w0 ws w) (hi : ws[i]? = some (g, s)) (z : Nat) (hz : w.heap.size = z) (now : Int) (l : List Int) (k : Nat) (hk : l.length = k) (fr : Nat × Nat) (s' : XS) (x : Int)
    (hn : nowX now) (hl : ∀ y ∈ l, 0 ≤ y ∧ y < 256) (hkb : k ≤ 100000) (hs : writeS l now s = s') (hx : writeE l s = x) (hws : ws.set i (g, s') = ws') :
    Calls Try.prog 12 #[.pointer (some ⟨g, 0, none⟩), .slice (some ⟨z, 0, none⟩) k k, .int .u64 now] (w.alloc (.cells (l.map (Value.int .u8)).toArray 5 fr)) (YDo XAt Z w0 ws' (.int .i64 x) w) := by
  subst hz; subst hk
  have hb : Below w.heap.size w (w.alloc (.cells (l.map (Value.int .u8)).toArray 5 fr)) := (Below.refl _ _).alloc (Nat.le_refl _) _
  have hr : Rd (w.alloc (.cells (l.map (Value.int .u8)).toArray 5 fr)) (some ⟨w.heap.size, 0, none⟩) l.length l := Rd.const_ w w.heap.size rfl l _ _ hl
  have h1 : AtX XAt (fun q => Z q ∨ q = w.heap.size) w0 ws (w.alloc (.cells (l.map (Value.int .u8)).toArray 5 fr)) := h.more F (T := fun _ => False) (But.of hb) (fun _ x => x.elim) (fun _ x => x.elim) (fun q hq => by
    rcases hq with hq | hq
    · exact ⟨.inl hq, by have := h.many.1 q hq; simp; omega⟩
    · exact ⟨.inr (by omega), by simp; omega⟩) (fun q hq => .inl (h.old q hq))
  refine (ywrite F _ i g s ws ws' w0 _ h1 hi now _ l.length l.length l s' x hn hr hkb (Nat.le_refl _) (Nat.le_trans hkb (by simp [maxLen])) (fun b o e _ => by injection e with e; injection e with e; exact .inr e.symm) hs hx hws).mono ?_
  rintro e w' ⟨rfl, h2, h3⟩
  have hB : But (fun k => ¬ Z k) w w' := ((But.refl (fun k => ¬ Z k) w).alloc (.cells (l.map (Value.int .u8)).toArray 5 fr)).trans2 h3 (fun k hk hn hz => hn (.inl hz))
  exact ⟨rfl, h2.sub (fun k hk => .inl hk) h.old, hB⟩
/-- Send's and Tick's contracts, with a letter for the blocks that may be touched after. -/
theorem ysend' {f : Nat} {args : Array Value} {Z : Nat → Prop} {w0 w : World} {ws : MX} {ps : List (Int × List Int)} {er : Int} (h : Calls Try.prog f args w (YSend XAt Z w0 ws ps er w)) :
    Calls Try.prog f args w (fun e w' => ∃ v qs, ∃ Z' : Nat → Prop, e = .returned (.tuple #[v, .int .i64 er]) ∧ PcsX w' 54 w.heap.size v qs ∧ qs.map toldQ = ps ∧ AtX XAt Z' w0 ws w' ∧ But (fun k => ¬ Z k) w w' ∧ (∀ q, Z q → Z' q) ∧ (∀ q, blkQ v qs q → Z' q)) := by
  refine h.mono ?_
  rintro e w' ⟨v, qs, rfl, h1, h2, h3, h4⟩
  exact ⟨v, qs, _, rfl, h1, h2, h3, h4, fun q hq => .inl hq, fun q hq => .inr hq⟩
theorem ytick' {f : Nat} {args : Array Value} {Z : Nat → Prop} {w0 w : World} {ws : MX} {x : Int} {is : Bool} {er : Int} {l : List Int} (h : Calls Try.prog f args w (YTick XAt Z w0 ws x is er l w)) (hl : ∀ y ∈ l, 0 ≤ y ∧ y < 256) :
    Calls Try.prog f args w (fun e w' => ∃ A n c, ∃ Z' : Nat → Prop, e = .returned (.tuple #[.agg #[.int .u32 x, .slice A n c], .bool is, .int .i64 er]) ∧ (∀ W, But (fun k => ¬ Z' k) w' W → Rd W A n l) ∧ AtX XAt Z' w0 ws w' ∧ But (fun k => ¬ Z k) w w' ∧ (∀ q, Z q → Z' q)) := by
  refine h.mono ?_
  rintro e w' ⟨A, n, c, rfl, h1, h2, h3, h4⟩
  exact ⟨A, n, c, _, rfl, fun W hb => rd_own (c := c) (h2.rd hl) hb (fun b hb2 hn => hn (.inr hb2)), h3, h4, fun q hq => .inl hq⟩
theorem alloc_next (F : XFace XAt) {Z : Nat → Prop} {w0 w : World} {ws : MX} (h : AtX XAt Z w0 ws w) {z : Nat} (hz : w.heap.size = z) (x : Int) (A : Option Addr) (n c : Nat) (l : List Int) (hr : ∀ W, But (fun k => ¬ Z k) w W → Rd W A n l) :
    ∃ (wn : World) (Z' : Nat → Prop), w.alloc (.cells #[.int .u32 x, .slice A n c] 54) = wn ∧ AtX XAt Z' w0 ws wn ∧ But (fun k => ¬ Z k) w wn ∧ (∀ q, Z q → Z' q) ∧
      ∀ W, But (fun q => ¬ Z' q) wn W → W.cell? ⟨z, 0, none⟩ = some (.int .u32 x) ∧ W.cell? ⟨z, 1, none⟩ = some (.slice A n c) ∧ Rd W A n l := by
  subst hz
  have hb : Below w.heap.size w (w.alloc (.cells #[.int .u32 x, .slice A n c] 54)) := (Below.refl _ _).alloc (Nat.le_refl _) _
  have hk : (w.alloc (.cells #[.int .u32 x, .slice A n c] 54)).heap[w.heap.size]? = some (.cells #[.int .u32 x, .slice A n c] 54 (0, 0)) := heap_alloc_new w _
  have h1 := h.more F (w' := w.alloc (.cells #[.int .u32 x, .slice A n c] 54)) (Z' := fun q => Z q ∨ q = w.heap.size) (T := fun _ => False) (But.of hb) (fun _ x => x.elim) (fun _ x => x.elim) (fun q hq => by
    rcases hq with hq | hq
    · exact ⟨.inl hq, by have := h.many.1 q hq; simp; omega⟩
    · exact ⟨.inr (by omega), by simp; omega⟩) (fun q hq => .inl (h.old q hq))
  have hB : But (fun k => ¬ Z k) w (w.alloc (.cells #[.int .u32 x, .slice A n c] 54)) := (But.refl (fun k => ¬ Z k) w).alloc _
  refine ⟨_, _, rfl, h1, hB, fun q hq => .inl hq, fun W hW => ?_⟩
  have h2 := hW.blk hk (fun hn => hn (.inr rfl))
  exact ⟨by rw [blk_cell h2]; rfl, by rw [blk_cell h2]; rfl, hr W (hB.trans2 hW (fun k hk hn hz => hn (.inl hz)))⟩
theorem sub_trans {S T U : Nat → Prop} (h1 : ∀ q, S q → T q) (h2 : ∀ q, T q → U q) : ∀ q, S q → U q := fun q h => h2 q (h1 q h)
theorem but_on {S T : Nat → Prop} {w w1 w2 : World} (h : But (fun q => ¬ S q) w w1) (i : ∀ q, S q → T q) (h2 : But (fun q => ¬ T q) w1 w2) : But (fun q => ¬ S q) w w2 := h.trans (h2.mono (fun q _ hn hz => hn (i q hz)))
set_option maxHeartbeats 4000000 in
theorem awake19_any (F : XFace XAt) (w : World) : Calls Try.prog 11 #[] w (fun e w' => e = .returned (.bool true) ∧ Below w.heap.size w w') := by
  have HF := Lib.hid F
  clear F
  go_enter Try.func11, Try.ntmps11
  go_wp2_with fail
  refine (ynew HF.out _ [] w w (AtX.start w) 100 4 3 2 (by decide) (by decide) (by unfold badX; decide)).mono ?_
  rintro e w1 ⟨g, rfl, h1, h2⟩
  have HM := Lib.hid h1
  clear h1 h2
  unfold madeX
  have kc := Go.Joins.run_convert_bytes_const_at (P := Try.prog) w1 37 5 #[.int .u8 97, .int .u8 98, .int .u8 99, .int .u8 100, .int .u8 101, .int .u8 102] 6 6 w1.heap.size rfl Try.underlying37 Try.underlying5
  go_wp2_with fail
  obtain ⟨z, hz⟩ : ∃ z, w1.heap.size = z := ⟨_, rfl⟩
  clear kc
  have hsub := ywrite_lit HF.out _ 0 g (newX 100 4 3 2) [(g, newX 100 4 3 2)] [(g, aw1)] w w1 HM.out rfl z hz 0 [97, 98, 99, 100, 101, 102] 6 rfl (6, 7) aw1 0 (by decide) (by decide) (by decide) rfl aw_v1.1 rfl
  simp only [hz]
  refine Calls.mono hsub ?_
  clear hsub hz
  rintro e w2 ⟨rfl, h1, h2⟩
  have HM := Lib.hid h1
  clear h1 h2
  go_wp2_with fail
  refine (ysend' (ysend HF.out _ 0 g aw1 [(g, aw1)] [(g, aw2)] w w2 HM.out rfl 3 aw2 _ 0 (by decide) rfl aw_v1.2.1 (by decide) rfl)).mono ?_
  rintro e w3 ⟨v3, qs3, Z3, rfl, hp3, hq3, h1, -, -, hzz⟩
  obtain ⟨gA, oA, cA, A0, A1, c0, c1, rfl, hA⟩ := pcs_two hp3 hq3 (by decide) (by decide)
  obtain ⟨YA, hYA⟩ : ∃ Y, blkQ (.slice (some ⟨gA, oA, none⟩) 2 cA) qs3 = Y := ⟨_, rfl⟩
  rw [hYA] at hzz hA
  have HM := Lib.hid h1
  have HA := Lib.hid (fun W (hb : But (fun q => ¬ YA q) w3 W) => hA W _ hb (fun k hk hn => hn hk))
  have HbA := Lib.hid (But.refl (fun q => ¬ YA q) w3)
  have HiA := Lib.hid hzz
  clear hp3 hq3 h1 hA hzz hYA
  go_wp2_with fail
  refine (ysend' (ysend HF.out _ 0 g aw2 [(g, aw2)] [(g, aw3)] w w3 HM.out rfl 3 aw3 _ 0 (by decide) rfl aw_v1.2.2.1 (by decide) rfl)).mono ?_
  rintro e w4 ⟨v4, qs4, Z4, rfl, hp4, hq4, h1, h2, hzz, -⟩
  obtain ⟨A4, c4, rfl⟩ := pcs_no hp4 hq4
  have HM := Lib.hid h1
  have HbA2 := Lib.hid (but_on HbA.out HiA.out h2)
  have HiA2 := Lib.hid (sub_trans HiA.out hzz)
  clear HbA HiA
  have HbA := HbA2
  have HiA := HiA2
  clear HbA2 HiA2
  clear hp4 hq4 h1 h2 hzz
  go_wp2_with fail
  refine (yack HF.out _ 0 g aw3 [(g, aw3)] [(g, aw4)] w w4 HM.out rfl 102 4 1 aw4 2 0 (by decide) (by decide) (by decide) rfl aw_v1.2.2.2.1 aw_v1.2.2.2.2.1 rfl).mono ?_
  rintro e w5 ⟨rfl, h1, h2⟩
  have HM := Lib.hid h1
  have HbA2 := Lib.hid (but_on HbA.out HiA.out h2)
  clear HbA
  have HbA := HbA2
  clear HbA2
  clear h1 h2
  go_wp2_with fail
  refine (ysend' (ysend HF.out _ 0 g aw4 [(g, aw4)] [(g, aw5)] w w5 HM.out rfl 3 aw5 _ 0 (by decide) rfl aw_v1.2.2.2.2.2 (by decide) rfl)).mono ?_
  rintro e w6 ⟨v6, qs6, Z6, rfl, hp6, hq6, h1, h2, hzz, hz6⟩
  obtain ⟨gB, oB, cB, B0, d0, rfl, hB⟩ := pcs_one hp6 hq6 (by decide)
  obtain ⟨YB, hYB⟩ : ∃ Y, blkQ (.slice (some ⟨gB, oB, none⟩) 1 cB) qs6 = Y := ⟨_, rfl⟩
  rw [hYB] at hz6 hB
  have HM := Lib.hid h1
  have HbA2 := Lib.hid (but_on HbA.out HiA.out h2)
  have HiA2 := Lib.hid (sub_trans HiA.out hzz)
  clear HbA HiA
  have HbA := HbA2
  have HiA := HiA2
  clear HbA2 HiA2
  have HB := Lib.hid (fun W (hb : But (fun q => ¬ YB q) w6 W) => hB W _ hb (fun k hk hn => hn hk))
  have HbB := Lib.hid (But.refl (fun q => ¬ YB q) w6)
  have HiB := Lib.hid hz6
  clear hp6 hq6 h1 h2 hB hzz hz6 hYB
  go_wp2_with fail
  refine (ytick' (ytick HF.out _ 0 g aw5 [(g, aw5)] [(g, aw6)] w w6 HM.out rfl 3 3 aw6 _ _ _ [] (by decide) (by decide) rfl rfl aw_v2.1 rfl (by decide +kernel) rfl) (by simp)).mono ?_
  rintro e w7 ⟨A7, n7, c7, Z7, rfl, h0, h1, h2, hzz⟩
  have HM := Lib.hid h1
  have HbA2 := Lib.hid (but_on HbA.out HiA.out h2)
  have HiA2 := Lib.hid (sub_trans HiA.out hzz)
  clear HbA HiA
  have HbA := HbA2
  have HiA := HiA2
  clear HbA2 HiA2
  have HbB2 := Lib.hid (but_on HbB.out HiB.out h2)
  have HiB2 := Lib.hid (sub_trans HiB.out hzz)
  clear HbB HiB
  have HbB := HbB2
  have HiB := HiB2
  clear HbB2 HiB2
  have H0 := Lib.hid h0
  clear h0 h1 h2 hzz
  go_wp2_with fail
  obtain ⟨z7, hz7⟩ : ∃ z, w7.heap.size = z := ⟨_, rfl⟩
  obtain ⟨x7, hx7⟩ : ∃ z, tickA 3 3 aw5 = z := ⟨_, rfl⟩
  simp only [hz7, hx7]
  obtain ⟨w8, Z8, ew8, h1, h2, hzz, -⟩ := alloc_next HF.out HM.out hz7 x7 A7 n7 c7 [] H0.out
  simp only [ew8]
  have HM := Lib.hid h1
  have HbA2 := Lib.hid (but_on HbA.out HiA.out h2)
  have HiA2 := Lib.hid (sub_trans HiA.out hzz)
  clear HbA HiA
  have HbA := HbA2
  have HiA := HiA2
  clear HbA2 HiA2
  have HbB2 := Lib.hid (but_on HbB.out HiB.out h2)
  have HiB2 := Lib.hid (sub_trans HiB.out hzz)
  clear HbB HiB
  have HbB := HbB2
  have HiB := HiB2
  clear HbB2 HiB2
  clear h1 h2 hzz hz7 hx7 ew8 H0
  refine (ytick' (ytick HF.out _ 0 g aw6 [(g, aw6)] [(g, aw7)] w w8 HM.out rfl 3 4 aw7 102 _ _ [99, 100, 101] (by decide) (by decide) rfl aw_v2.2.2.2.1 aw_v2.2.1 rfl aw_v2.2.2.1 rfl) (by decide)).mono ?_
  rintro e w9 ⟨A9, n9, c9, Z9, rfl, h0, h1, h2, hzz⟩
  have HM := Lib.hid h1
  have HbA2 := Lib.hid (but_on HbA.out HiA.out h2)
  have HiA2 := Lib.hid (sub_trans HiA.out hzz)
  clear HbA HiA
  have HbA := HbA2
  have HiA := HiA2
  clear HbA2 HiA2
  have HbB2 := Lib.hid (but_on HbB.out HiB.out h2)
  have HiB2 := Lib.hid (sub_trans HiB.out hzz)
  clear HbB HiB
  have HbB := HbB2
  have HiB := HiB2
  clear HbB2 HiB2
  have H0 := Lib.hid h0
  clear h0 h1 h2 hzz
  go_wp2_with fail
  obtain ⟨z9, hz9⟩ : ∃ z, w9.heap.size = z := ⟨_, rfl⟩
  simp only [hz9]
  obtain ⟨w10, Z10, ew10, h1, h2, hzz, h0⟩ := alloc_next HF.out HM.out hz9 102 A9 n9 c9 [99, 100, 101] H0.out
  simp only [ew10]
  have HM := Lib.hid h1
  have HbA2 := Lib.hid (but_on HbA.out HiA.out h2)
  have HiA2 := Lib.hid (sub_trans HiA.out hzz)
  clear HbA HiA
  have HbA := HbA2
  have HiA := HiA2
  clear HbA2 HiA2
  have HbB2 := Lib.hid (but_on HbB.out HiB.out h2)
  have HiB2 := Lib.hid (sub_trans HiB.out hzz)
  clear HbB HiB
  have HbB := HbB2
  have HiB := HiB2
  clear HbB2 HiB2
  have HU := Lib.hid h0
  have HbU := Lib.hid (But.refl (fun q => ¬ Z10 q) w10)
  have HiU := Lib.hid (fun q (hq : Z10 q) => hq)
  clear h0 h1 h2 hzz hz9 ew10 H0
  refine (ytick' (ytick HF.out _ 0 g aw7 [(g, aw7)] [(g, aw8)] w w10 HM.out rfl 3 10 aw8 102 _ _ [99, 100, 101] (by decide) (by decide) rfl aw_v2.2.2.2.2.2.2.1 aw_v2.2.2.2.2.1 rfl aw_v2.2.2.2.2.2.1 rfl) (by decide)).mono ?_
  rintro e w11 ⟨A11, n11, c11, Z11, rfl, h0, h1, h2, hzz⟩
  have HM := Lib.hid h1
  have HbA2 := Lib.hid (but_on HbA.out HiA.out h2)
  have HiA2 := Lib.hid (sub_trans HiA.out hzz)
  clear HbA HiA
  have HbA := HbA2
  have HiA := HiA2
  clear HbA2 HiA2
  have HbB2 := Lib.hid (but_on HbB.out HiB.out h2)
  have HiB2 := Lib.hid (sub_trans HiB.out hzz)
  clear HbB HiB
  have HbB := HbB2
  have HiB := HiB2
  clear HbB2 HiB2
  have HbU2 := Lib.hid (but_on HbU.out HiU.out h2)
  have HiU2 := Lib.hid (sub_trans HiU.out hzz)
  clear HbU HiU
  have HbU := HbU2
  have HiU := HiU2
  clear HbU2 HiU2
  have H0 := Lib.hid h0
  clear h0 h1 h2 hzz
  go_wp2_with fail
  obtain ⟨z11, hz11⟩ : ∃ z, w11.heap.size = z := ⟨_, rfl⟩
  simp only [hz11]
  obtain ⟨w12, Z12, ew12, h1, h2, hzz, h0⟩ := alloc_next HF.out HM.out hz11 102 A11 n11 c11 [99, 100, 101] H0.out
  simp only [ew12]
  have HM := Lib.hid h1
  have HbA2 := Lib.hid (but_on HbA.out HiA.out h2)
  have HiA2 := Lib.hid (sub_trans HiA.out hzz)
  clear HbA HiA
  have HbA := HbA2
  have HiA := HiA2
  clear HbA2 HiA2
  have HbB2 := Lib.hid (but_on HbB.out HiB.out h2)
  have HiB2 := Lib.hid (sub_trans HiB.out hzz)
  clear HbB HiB
  have HbB := HbB2
  have HiB := HiB2
  clear HbB2 HiB2
  have HbU2 := Lib.hid (but_on HbU.out HiU.out h2)
  have HiU2 := Lib.hid (sub_trans HiU.out hzz)
  clear HbU HiU
  have HbU := HbU2
  have HiU := HiU2
  clear HbU2 HiU2
  have HV := Lib.hid h0
  have HbV := Lib.hid (But.refl (fun q => ¬ Z12 q) w12)
  have HiV := Lib.hid (fun q (hq : Z12 q) => hq)
  clear h0 h1 h2 hzz hz11 ew12 H0
  refine (ytick' (ytick HF.out _ 0 g aw8 [(g, aw8)] [(g, tickS 3 22 aw8)] w w12 HM.out rfl 3 22 _ _ _ _ (tickD 3 22 aw8) (by decide) (by decide) rfl rfl rfl aw_v2.2.2.2.2.2.2.2 rfl rfl) (by decide +kernel)).mono ?_
  rintro e w13 ⟨A13, n13, c13, Z13, rfl, -, h1, h2, hzz⟩
  obtain ⟨x13, hx13⟩ : ∃ z, tickA 3 22 aw8 = z := ⟨_, rfl⟩
  simp only [hx13]
  have HbA2 := Lib.hid (but_on HbA.out HiA.out h2)
  have HiA2 := Lib.hid (sub_trans HiA.out hzz)
  clear HbA HiA
  have HbA := HbA2
  have HiA := HiA2
  clear HbA2 HiA2
  have HbB2 := Lib.hid (but_on HbB.out HiB.out h2)
  have HiB2 := Lib.hid (sub_trans HiB.out hzz)
  clear HbB HiB
  have HbB := HbB2
  have HiB := HiB2
  clear HbB2 HiB2
  have HbU2 := Lib.hid (but_on HbU.out HiU.out h2)
  have HiU2 := Lib.hid (sub_trans HiU.out hzz)
  clear HbU HiU
  have HbU := HbU2
  have HiU := HiU2
  clear HbU2 HiU2
  have HbV2 := Lib.hid (but_on HbV.out HiV.out h2)
  have HiV2 := Lib.hid (sub_trans HiV.out hzz)
  clear HbV HiV
  have HbV := HbV2
  have HiV := HiV2
  clear HbV2 HiV2
  have HO := Lib.hid h1.old
  have HBl := Lib.hid h1.base
  clear h1 h2 hzz hx13
  obtain ⟨w14, ew14⟩ : ∃ v, w13.alloc (.cells #[.int .u32 x13, .slice A13 n13 c13] 54) = v := ⟨_, rfl⟩
  have h2 : But (fun q => ¬ Z13 q) w13 w14 := by rw [← ew14]; exact (But.refl _ _).alloc _
  have hb14 : Below w.heap.size w w14 := belX h2 HBl.out HO.out
  have HbA2 := Lib.hid (but_on HbA.out HiA.out h2)
  clear HbA
  have HbA := HbA2
  clear HbA2
  have HbB2 := Lib.hid (but_on HbB.out HiB.out h2)
  clear HbB
  have HbB := HbB2
  clear HbB2
  have HbU2 := Lib.hid (but_on HbU.out HiU.out h2)
  clear HbU
  have HbU := HbU2
  clear HbU2
  have HbV2 := Lib.hid (but_on HbV.out HiV.out h2)
  clear HbV
  have HbV := HbV2
  clear HbV2
  have Hb14 := Lib.hid hb14
  have Ew14 := Lib.hid ew14
  clear h2 hb14 ew14 HBl
  have pA := HA.out _ HbA.out
  have pB := HB.out _ HbB.out
  have kA0 := pA.1.k0
  have kA1 := pA.1.k1
  have kA2 := pA.2.k0
  have kA3 := pA.2.k1
  have kB0 := pB.k0
  have kB1 := pB.k1
  have rA0 := Lib.hid pA.1.rd
  have rA1 := Lib.hid pA.2.rd
  have rB0 := Lib.hid pB.rd
  obtain ⟨kU0, kU1, jU⟩ := HU.out _ HbU.out
  obtain ⟨kV0, kV1, jV⟩ := HV.out _ HbV.out
  have rU := Lib.hid jU
  have rV := Lib.hid jV
  clear pA pB jU jV
  try simp only []
  repeat (first | go_values | go_skip | go_guarded | go_step | go_upon | go_back)
  rw [Ew14.out]
  simp only [kA0, kA1, Result.andThen]
  repeat (first | go_values | go_skip | go_guarded | go_step | go_upon | go_back)
  refine (is19_any A0 3 c0 [97, 98, 99] 100 _ w14 rA0.out str_abc.1).mono ?_
  rintro e w15 ⟨rfl, hb⟩
  have h2 : But (fun q => ¬ Z13 q) w14 w15 := But.of hb
  have hbn : Below w.heap.size w w15 := belX h2 Hb14.out HO.out
  have HbA2 := Lib.hid (but_on HbA.out HiA.out h2)
  clear HbA
  have HbA := HbA2
  clear HbA2
  have HbB2 := Lib.hid (but_on HbB.out HiB.out h2)
  clear HbB
  have HbB := HbB2
  clear HbB2
  have HbU2 := Lib.hid (but_on HbU.out HiU.out h2)
  clear HbU
  have HbU := HbU2
  clear HbU2
  have HbV2 := Lib.hid (but_on HbV.out HiV.out h2)
  clear HbV
  have HbV := HbV2
  clear HbV2
  clear kA0 kA1 kA2 kA3 kB0 kB1 kU0 kU1 kV0 kV1 rA0 rA1 rB0 rU rV
  clear Hb14
  have Hb14 := Lib.hid hbn
  clear hb h2 hbn
  have pA := HA.out _ HbA.out
  have pB := HB.out _ HbB.out
  have kA0 := pA.1.k0
  have kA1 := pA.1.k1
  have kA2 := pA.2.k0
  have kA3 := pA.2.k1
  have kB0 := pB.k0
  have kB1 := pB.k1
  have rA0 := Lib.hid pA.1.rd
  have rA1 := Lib.hid pA.2.rd
  have rB0 := Lib.hid pB.rd
  obtain ⟨kU0, kU1, jU⟩ := HU.out _ HbU.out
  obtain ⟨kV0, kV1, jV⟩ := HV.out _ HbV.out
  have rU := Lib.hid jU
  have rV := Lib.hid jV
  clear pA pB jU jV
  try simp only []
  repeat (first | go_values | go_skip | go_guarded | go_step | go_upon | go_back)
  refine (is19_any A1 1 c1 [100] 103 _ w15 rA1.out str_abc.2.1).mono ?_
  rintro e w16 ⟨rfl, hb⟩
  have h2 : But (fun q => ¬ Z13 q) w15 w16 := But.of hb
  have hbn : Below w.heap.size w w16 := belX h2 Hb14.out HO.out
  have HbA2 := Lib.hid (but_on HbA.out HiA.out h2)
  clear HbA
  have HbA := HbA2
  clear HbA2
  have HbB2 := Lib.hid (but_on HbB.out HiB.out h2)
  clear HbB
  have HbB := HbB2
  clear HbB2
  have HbU2 := Lib.hid (but_on HbU.out HiU.out h2)
  clear HbU
  have HbU := HbU2
  clear HbU2
  have HbV2 := Lib.hid (but_on HbV.out HiV.out h2)
  clear HbV
  have HbV := HbV2
  clear HbV2
  clear kA0 kA1 kA2 kA3 kB0 kB1 kU0 kU1 kV0 kV1 rA0 rA1 rB0 rU rV
  clear Hb14
  have Hb14 := Lib.hid hbn
  clear hb h2 hbn
  have pA := HA.out _ HbA.out
  have pB := HB.out _ HbB.out
  have kA0 := pA.1.k0
  have kA1 := pA.1.k1
  have kA2 := pA.2.k0
  have kA3 := pA.2.k1
  have kB0 := pB.k0
  have kB1 := pB.k1
  have rA0 := Lib.hid pA.1.rd
  have rA1 := Lib.hid pA.2.rd
  have rB0 := Lib.hid pB.rd
  obtain ⟨kU0, kU1, jU⟩ := HU.out _ HbU.out
  obtain ⟨kV0, kV1, jV⟩ := HV.out _ HbV.out
  have rU := Lib.hid jU
  have rV := Lib.hid jV
  clear pA pB jU jV
  try simp only []
  repeat (first | go_values | go_skip | go_guarded | go_step | go_upon | go_back)
  refine (is19_any B0 2 d0 [101, 102] 104 _ w16 rB0.out str_abc.2.2.1).mono ?_
  rintro e w17 ⟨rfl, hb⟩
  have h2 : But (fun q => ¬ Z13 q) w16 w17 := But.of hb
  have hbn : Below w.heap.size w w17 := belX h2 Hb14.out HO.out
  have HbA2 := Lib.hid (but_on HbA.out HiA.out h2)
  clear HbA
  have HbA := HbA2
  clear HbA2
  have HbB2 := Lib.hid (but_on HbB.out HiB.out h2)
  clear HbB
  have HbB := HbB2
  clear HbB2
  have HbU2 := Lib.hid (but_on HbU.out HiU.out h2)
  clear HbU
  have HbU := HbU2
  clear HbU2
  have HbV2 := Lib.hid (but_on HbV.out HiV.out h2)
  clear HbV
  have HbV := HbV2
  clear HbV2
  clear kA0 kA1 kA2 kA3 kB0 kB1 kU0 kU1 kV0 kV1 rA0 rA1 rB0 rU rV
  clear Hb14
  have Hb14 := Lib.hid hbn
  clear hb h2 hbn
  have pA := HA.out _ HbA.out
  have pB := HB.out _ HbB.out
  have kA0 := pA.1.k0
  have kA1 := pA.1.k1
  have kA2 := pA.2.k0
  have kA3 := pA.2.k1
  have kB0 := pB.k0
  have kB1 := pB.k1
  have rA0 := Lib.hid pA.1.rd
  have rA1 := Lib.hid pA.2.rd
  have rB0 := Lib.hid pB.rd
  obtain ⟨kU0, kU1, jU⟩ := HU.out _ HbU.out
  obtain ⟨kV0, kV1, jV⟩ := HV.out _ HbV.out
  have rU := Lib.hid jU
  have rV := Lib.hid jV
  clear pA pB jU jV
  try simp only []
  repeat (first | go_values | go_skip | go_guarded | go_step | go_upon | go_back)
  refine (is19_any A9 n9 c9 [99, 100, 101] 102 _ w17 rU.out str_abc.2.2.2).mono ?_
  rintro e w18 ⟨rfl, hb⟩
  have h2 : But (fun q => ¬ Z13 q) w17 w18 := But.of hb
  have hbn : Below w.heap.size w w18 := belX h2 Hb14.out HO.out
  have HbA2 := Lib.hid (but_on HbA.out HiA.out h2)
  clear HbA
  have HbA := HbA2
  clear HbA2
  have HbB2 := Lib.hid (but_on HbB.out HiB.out h2)
  clear HbB
  have HbB := HbB2
  clear HbB2
  have HbU2 := Lib.hid (but_on HbU.out HiU.out h2)
  clear HbU
  have HbU := HbU2
  clear HbU2
  have HbV2 := Lib.hid (but_on HbV.out HiV.out h2)
  clear HbV
  have HbV := HbV2
  clear HbV2
  clear kA0 kA1 kA2 kA3 kB0 kB1 kU0 kU1 kV0 kV1 rA0 rA1 rB0 rU rV
  clear Hb14
  have Hb14 := Lib.hid hbn
  clear hb h2 hbn
  have pA := HA.out _ HbA.out
  have pB := HB.out _ HbB.out
  have kA0 := pA.1.k0
  have kA1 := pA.1.k1
  have kA2 := pA.2.k0
  have kA3 := pA.2.k1
  have kB0 := pB.k0
  have kB1 := pB.k1
  have rA0 := Lib.hid pA.1.rd
  have rA1 := Lib.hid pA.2.rd
  have rB0 := Lib.hid pB.rd
  obtain ⟨kU0, kU1, jU⟩ := HU.out _ HbU.out
  obtain ⟨kV0, kV1, jV⟩ := HV.out _ HbV.out
  have rU := Lib.hid jU
  have rV := Lib.hid jV
  clear pA pB jU jV
  try simp only []
  repeat (first | go_values | go_skip | go_guarded | go_step | go_upon | go_back)
  refine (is19_any A11 n11 c11 [99, 100, 101] 102 _ w18 rV.out str_abc.2.2.2).mono ?_
  rintro e w19 ⟨rfl, hb⟩
  have h2 : But (fun q => ¬ Z13 q) w18 w19 := But.of hb
  have hbn : Below w.heap.size w w19 := belX h2 Hb14.out HO.out
  have HbA2 := Lib.hid (but_on HbA.out HiA.out h2)
  clear HbA
  have HbA := HbA2
  clear HbA2
  have HbB2 := Lib.hid (but_on HbB.out HiB.out h2)
  clear HbB
  have HbB := HbB2
  clear HbB2
  have HbU2 := Lib.hid (but_on HbU.out HiU.out h2)
  clear HbU
  have HbU := HbU2
  clear HbU2
  have HbV2 := Lib.hid (but_on HbV.out HiV.out h2)
  clear HbV
  have HbV := HbV2
  clear HbV2
  clear kA0 kA1 kA2 kA3 kB0 kB1 kU0 kU1 kV0 kV1 rA0 rA1 rB0 rU rV
  clear Hb14
  have Hb14 := Lib.hid hbn
  clear hb h2 hbn
  have pA := HA.out _ HbA.out
  have pB := HB.out _ HbB.out
  have kA0 := pA.1.k0
  have kA1 := pA.1.k1
  have kA2 := pA.2.k0
  have kA3 := pA.2.k1
  have kB0 := pB.k0
  have kB1 := pB.k1
  have rA0 := Lib.hid pA.1.rd
  have rA1 := Lib.hid pA.2.rd
  have rB0 := Lib.hid pB.rd
  obtain ⟨kU0, kU1, jU⟩ := HU.out _ HbU.out
  obtain ⟨kV0, kV1, jV⟩ := HV.out _ HbV.out
  have rU := Lib.hid jU
  have rV := Lib.hid jV
  clear pA pB jU jV
  try simp only []
  repeat (first | go_values | go_skip | go_guarded | go_step | go_upon | go_back)
  go_ret
  exact ⟨rfl, Hb14.out⟩
end Go.Proofs.Ytncbkgcblmohoaa
