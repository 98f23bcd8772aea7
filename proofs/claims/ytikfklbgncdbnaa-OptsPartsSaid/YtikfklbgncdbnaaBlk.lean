/-
  Slices of blocks (two numbers of 32 bits each): what they hold ('RdK'), one of the call's own ('OwnK'), append, one that comes in. No function of the program.
-/
import Derived.Test.YtikfklbgncdbnaaBut
import Derived.Deep.Slices
import Derived.ChangeSame
namespace Go.Proofs.Ytikfklbgncdbnaa
set_option maxRecDepth 10000
open Go.ChangeShapes Go.WideShapes Go.ChangeAt Go.RowKit Go.Deep

def U32P (p : Int × Int) : Prop := (0 ≤ p.1 ∧ p.1 < 4294967296) ∧ (0 ≤ p.2 ∧ p.2 < 4294967296)
def blkCells (l : List (Int × Int)) : List Value := l.flatMap fun p => [.int .u32 p.1, .int .u32 p.2]
theorem blkCells_len (l : List (Int × Int)) : (blkCells l).length = l.length * 2 := by
  induction l with
  | nil => rfl
  | cons o os ih => simp [blkCells] at ih ⊢; omega
theorem blkCells_app (a b : List (Int × Int)) : blkCells (a ++ b) = blkCells a ++ blkCells b := by simp [blkCells]
theorem blkCells_at (l : List (Int × Int)) (i : Nat) (h : i < l.length) : (blkCells l)[i * 2]? = some (.int .u32 (l.getD i (0, 0)).1) ∧ (blkCells l)[i * 2 + 1]? = some (.int .u32 (l.getD i (0, 0)).2) := by
  induction l generalizing i with
  | nil => simp at h
  | cons o os ih =>
    cases i with
    | zero => simp [blkCells]
    | succ i =>
      have := ih i (by simpa using h)
      have e : (i + 1) * 2 = i * 2 + 1 + 1 := by omega
      rw [e]
      simpa [blkCells] using this
theorem blkCells_one (l : List (Int × Int)) : ∀ u ∈ blkCells l, u.oneCell' = true := by
  intro u hu
  simp [blkCells] at hu
  obtain ⟨a, b, _, rfl | rfl⟩ := hu <;> rfl

structure RdK (w : World) (A : Option Addr) (n : Nat) (l : List (Int × Int)) : Prop where
  len : l.length = n
  u32 : ∀ p ∈ l, U32P p
  at_ : 0 < n → ∃ b o, A = some ⟨b, o, none⟩ ∧ b < w.heap.size ∧ ∀ i, i < n → w.cell? ⟨b, o + i * 2, none⟩ = some (.int .u32 (l.getD i (0, 0)).1) ∧ w.cell? ⟨b, o + (i * 2 + 1), none⟩ = some (.int .u32 (l.getD i (0, 0)).2)
theorem RdK.nil (w : World) (A : Option Addr) : RdK w A 0 [] := ⟨rfl, by simp, fun h => absurd h (by omega)⟩
theorem RdK.below {w w' : World} {A : Option Addr} {n : Nat} {l : List (Int × Int)} (h : RdK w A n l) (hb : Below w.heap.size w w') : RdK w' A n l :=
  ⟨h.len, h.u32, fun hn => by
    obtain ⟨b, o, e, hlt, hc⟩ := h.at_ hn
    exact ⟨b, o, e, Nat.lt_of_lt_of_le hlt hb.size, fun i hi => ⟨by rw [hb.cell (p := ⟨b, o + i * 2, none⟩) hlt]; exact (hc i hi).1, by rw [hb.cell (p := ⟨b, o + (i * 2 + 1), none⟩) hlt]; exact (hc i hi).2⟩⟩⟩
theorem RdK.drewN {w : World} {A : Option Addr} {n : Nat} {l : List (Int × Int)} (h : RdK w A n l) (k : Nat) : RdK (w.drewN k) A n l := ⟨h.len, h.u32, h.at_⟩
theorem RdK.take {w : World} {A : Option Addr} {n k : Nat} {l : List (Int × Int)} (h : RdK w A n l) (hk : k ≤ n) : RdK w A k (l.take k) := by
  refine ⟨by rw [List.length_take, h.len]; omega, fun p hp => h.u32 p (List.mem_of_mem_take hp), fun hn => ?_⟩
  obtain ⟨b, o, e, hlt, hc⟩ := h.at_ (by omega)
  refine ⟨b, o, e, hlt, fun i hi => ?_⟩
  have e2 : (l.take k).getD i (0, 0) = l.getD i (0, 0) := by simp [List.getD, List.getElem?_take_of_lt hi]
  rw [e2]; exact hc i (by omega)
theorem RdK.one (w : World) (g : Nat) (hg : w.heap.size = g) (t : TypeId) (fr : Nat × Nat) (x y : Int) (h : U32P (x, y)) : RdK (w.alloc (.cells #[.int .u32 x, .int .u32 y] t fr)) (some ⟨g, 0, none⟩) 1 [(x, y)] := by
  subst hg
  refine ⟨rfl, by simpa using h, fun _ => ⟨w.heap.size, 0, rfl, by simp, fun i hi => ?_⟩⟩
  obtain rfl : i = 0 := by omega
  simp only [World.cell?_alloc_mark]
  simp

/-- '.slice A n c' is a slice of blocks (of type t) that the call made, from block B on. -/
def OwnK (t : TypeId) (w : World) (B : Nat) (A : Option Addr) (n c : Nat) (l : List (Int × Int)) : Prop := w.ownsRow B t 2 (.slice A n c) n (blkCells l)
theorem OwnK.len {t : TypeId} {w : World} {B : Nat} {A : Option Addr} {n c : Nat} {l : List (Int × Int)} (h : OwnK t w B A n c l) : l.length = n := by
  have := h.1
  rw [blkCells_len] at this
  omega
theorem OwnK.cap {t : TypeId} {w : World} {B : Nat} {A : Option Addr} {n c : Nat} {l : List (Int × Int)} (h : OwnK t w B A n c l) : n ≤ c ∧ c ≤ maxLen := by
  rcases h.2 with ⟨e, rfl⟩ | ⟨g, cap, cur, e, _, _, hnc, hcm, _⟩
  · injection e with _ _ e3; subst e3; simp
  · injection e with _ _ e3; subst e3; exact ⟨hnc, hcm⟩
theorem OwnK.nil (t : TypeId) (w : World) (B : Nat) : OwnK t w B none 0 0 [] := World.ownsRow_nil w B t 2
theorem OwnK.rd {t : TypeId} {w : World} {B : Nat} {A : Option Addr} {n c : Nat} {l : List (Int × Int)} (h : OwnK t w B A n c l) (hl : ∀ p ∈ l, U32P p) : RdK w A n l := by
  refine ⟨h.len, hl, fun hn => ?_⟩
  rcases id h.2 with ⟨e, h0⟩ | ⟨g, cap, cur, e, _, hg, _⟩
  · omega
  · injection e with e1 e2 e3
    subst e1
    refine ⟨g, 0, rfl, lt_of_block hg, fun i hi => ?_⟩
    have hlen := h.len
    have hat := blkCells_at l i (by omega)
    rw [Nat.zero_add, Nat.zero_add]
    have h' : w.ownsRow B t 2 (.slice (some ⟨g, 0, none⟩) n c) n (blkCells l) := h
    exact ⟨by rw [World.ownsRow.cellAt h' _ (by omega)]; exact hat.1, by rw [World.ownsRow.cellAt h' _ (by omega)]; exact hat.2⟩
theorem OwnK.mono {t : TypeId} {w : World} {B B' : Nat} {A : Option Addr} {n c : Nat} {l : List (Int × Int)} (h : OwnK t w B A n c l) (hB : B' ≤ B) : OwnK t w B' A n c l := by
  refine ⟨h.1, ?_⟩
  rcases h.2 with h0 | ⟨g, cap, cur, e, hg, r⟩
  · exact .inl h0
  · exact .inr ⟨g, cap, cur, e, Nat.le_trans hB hg, r⟩
theorem OwnK.on {t : TypeId} {w w' : World} {B : Nat} {A : Option Addr} {n c : Nat} {l : List (Int × Int)} (h : OwnK t w B A n c l) (hb : Below w.heap.size w w') : OwnK t w' B A n c l := by
  refine ⟨h.1, ?_⟩
  rcases h.2 with h0 | ⟨g, cap, cur, e, hB, hc, hrest⟩
  · exact .inl h0
  · exact .inr ⟨g, cap, cur, e, hB, (hb.block g (lt_of_block hc)).trans hc, hrest⟩
theorem OwnK.form {t : TypeId} {w : World} {B : Nat} {v : Value} {n : Nat} {l : List (Int × Int)} (h : w.ownsRow B t 2 v n (blkCells l)) : ∃ A c, v = .slice A n c ∧ OwnK t w B A n c l := by
  rcases id h.2 with ⟨rfl, rfl⟩ | ⟨g, cap, cur, rfl, _⟩
  · exact ⟨none, 0, rfl, h⟩
  · exact ⟨_, _, rfl, h⟩
/-- A row of blocks of the call's own, told. -/
def BlksAre (t : TypeId) (n : Nat) (l : List (Int × Int)) (w : World) (e : Ending) (w' : World) : Prop := ∃ A c, e = .returned (.slice A n c) ∧ OwnK t w' w.heap.size A n c l ∧ Below w.heap.size w w'

theorem RdK.index_o {w : World} {A : Option Addr} {n c : Nat} {l : List (Int × Int)} (h : RdK w A n l) {j : Nat} (hj : j < n) :
    ∃ b p, (∀ W : World, (Instr.indexAt 42 (.slice A n c) (.int .i64 (j : Int))).run Try.prog W = .ok (.pointer (some ⟨b, p, none⟩)) W) ∧ b < w.heap.size ∧ w.cell? ⟨b, p, none⟩ = some (.int .u32 (l.getD j (0, 0)).1) ∧ w.cell? ⟨b, p + 1, none⟩ = some (.int .u32 (l.getD j (0, 0)).2) ∧ U32P (l.getD j (0, 0)) := by
  obtain ⟨b, o, rfl, hb, hc⟩ := h.at_ (by omega)
  have h0 : (0 : Int) ≤ (j : Int) := by omega
  have h1 : (j : Int) < (n : Int) := by omega
  refine ⟨b, o + j * 2, fun W => by go_simp, hb, (hc j hj).1, by simpa [Nat.add_assoc] using (hc j hj).2, ?_⟩
  have hl := h.len
  simp only [List.getD, List.getElem?_eq_getElem (show j < l.length by omega), Option.getD_some]
  exact h.u32 _ (List.getElem_mem _)
theorem infoBlk_o : (Try.prog.info? 55).map (fun i => (i.zero, i.size, i.bytes)) = some (some (.agg #[.int .u32 0, .int .u32 0]), 2, 8) := by kernel_rfl
theorem appK_o (w : World) (ty : TypeId) (B : Nat) (A A' : Option Addr) (n c m c' : Nat) (l l' : List (Int × Int)) (h : OwnK 55 w B A n c l) (hr : RdK w A' m l') (h0 : 0 < m) (hs : (n + m) * 8 ≤ 140737488355328) (hB : B ≤ w.heap.size) :
    ∃ A2 c2 w', (Builtin.append_ #[42, 42] ty #[.slice A n c, .slice A' m c']).run Try.prog w = .ok (.slice A2 (n + m) c2) w' ∧ OwnK 55 w' B A2 (n + m) c2 (l ++ l') ∧ w.grownBy w' (Value.slice A n c).ownBlock ∧ Below B w w' := by
  obtain ⟨i0, hi, hz0, hz1, hz2⟩ := info_parts infoBlk_o
  obtain ⟨b, o, rfl, _, hc⟩ := hr.at_ h0
  have hnews : ∀ j u, (blkCells l')[j]? = some u → w.cell? ((⟨b, o, none⟩ : Addr).add j) = some u := by
    intro j u hj
    have hjm : j < l'.length * 2 := by
      have := (List.getElem?_eq_some_iff.1 hj).1
      rwa [blkCells_len] at this
    refine cell_add ?_
    obtain ⟨i, rfl | rfl⟩ : ∃ i, j = i * 2 ∨ j = i * 2 + 1 := ⟨j / 2, by omega⟩
    · rw [(blkCells_at l' i (by omega)).1] at hj
      rw [(hc i (by have := hr.len; omega)).1]; exact hj
    · rw [(blkCells_at l' i (by omega)).2] at hj
      rw [(hc i (by have := hr.len; omega)).2]; exact hj
  obtain ⟨v', w', hrun, hown, hg, _, hat⟩ := run_append_own_at (P := Try.prog) w B 42 ty 55 i0 (.agg #[.int .u32 0, .int .u32 0]) 2 8 Try.underlying42 hi hz0 hz1 hz2 rfl (by omega) (.slice A n c) n _ h ⟨b, o, none⟩ m c' (blkCells l')
    (by rw [blkCells_len, hr.len]) hnews (blkCells_one l') (by unfold maxLen; omega) hs hB
  rw [← blkCells_app] at hown
  obtain ⟨A2, c2, rfl, ho⟩ := OwnK.form hown
  refine ⟨A2, c2, w', hrun, ho, hg, ⟨hg.os, hg.tape, hg.output, hg.size, fun k hk => hg.block k (by omega) (fun e => ?_)⟩⟩
  rcases h.2 with ⟨e1, _⟩ | ⟨g, cap, cur, e1, hBg, _⟩
  · injection e1 with e1 e2 e3
    subst e1
    simp [Value.ownBlock] at e
  · injection e1 with e1 e2 e3
    subst e1
    simp [Value.ownBlock] at e
    omega
theorem wpList_appK_o {ops : Array Oper} {rest : List Oper} {o : Oper} {a : Act} {w : World} {Q : Exit → Act → World → Prop} (hgd : o.guard = none) (s x : Operand)
    (ho : o.op = .call { callee := .builtin .append, args := #[s, x], argTypes := #[42, 42] })
    (B : Nat) (A A' : Option Addr) (n c m c' : Nat) (l l' : List (Int × Int)) (hs : a.eval s = .slice A n c) (hx : a.eval x = .slice A' m c') (h : OwnK 55 w B A n c l) (hr : RdK w A' m l') (h0 : 0 < m) (hsz : (n + m) * 8 ≤ 140737488355328) (hB : B ≤ w.heap.size)
    (hk : ∀ A2 c2 w', OwnK 55 w' B A2 (n + m) c2 (l ++ l') → w.grownBy w' (Value.slice A n c).ownBlock → Below B w w' →
      wpList Try.prog ops Q rest (a.put o.dst (.slice A2 (n + m) c2)) w') : wpList Try.prog ops Q (o :: rest) a w := by
  refine wpList_plain hgd fun K hK => ?_
  obtain ⟨A2, c2, w', hrun, h1, h2, h3⟩ := appK_o w o.type B A A' n c m c' l l' h hr h0 hsz hB
  unfold Oper.wp execOp
  simp only [ho, resolve, invoke, builtin, Sem.run_bind, Sem.run_pure, Result.andThen_ok, List.map_toArray, List.map_cons, List.map_nil, hs, hx, hrun]
  exact hK _ _ (hk A2 c2 w' h1 h2 h3)
theorem RdK.index_r {w : World} {A : Option Addr} {n c : Nat} {l : List (Int × Int)} (h : RdK w A n l) {j : Nat} (hj : j < n) :
    ∃ b p, (∀ W : World, (Instr.indexAt 51 (.slice A n c) (.int .i64 (j : Int))).run Try.prog W = .ok (.pointer (some ⟨b, p, none⟩)) W) ∧ b < w.heap.size ∧ w.cell? ⟨b, p, none⟩ = some (.int .u32 (l.getD j (0, 0)).1) ∧ w.cell? ⟨b, p + 1, none⟩ = some (.int .u32 (l.getD j (0, 0)).2) ∧ U32P (l.getD j (0, 0)) := by
  obtain ⟨b, o, rfl, hb, hc⟩ := h.at_ (by omega)
  have h0 : (0 : Int) ≤ (j : Int) := by omega
  have h1 : (j : Int) < (n : Int) := by omega
  refine ⟨b, o + j * 2, fun W => by go_simp, hb, (hc j hj).1, by simpa [Nat.add_assoc] using (hc j hj).2, ?_⟩
  have hl := h.len
  simp only [List.getD, List.getElem?_eq_getElem (show j < l.length by omega), Option.getD_some]
  exact h.u32 _ (List.getElem_mem _)
theorem infoBlk_r : (Try.prog.info? 56).map (fun i => (i.zero, i.size, i.bytes)) = some (some (.agg #[.int .u32 0, .int .u32 0]), 2, 8) := by kernel_rfl
theorem appK_r (w : World) (ty : TypeId) (B : Nat) (A A' : Option Addr) (n c m c' : Nat) (l l' : List (Int × Int)) (h : OwnK 56 w B A n c l) (hr : RdK w A' m l') (h0 : 0 < m) (hs : (n + m) * 8 ≤ 140737488355328) (hB : B ≤ w.heap.size) :
    ∃ A2 c2 w', (Builtin.append_ #[51, 51] ty #[.slice A n c, .slice A' m c']).run Try.prog w = .ok (.slice A2 (n + m) c2) w' ∧ OwnK 56 w' B A2 (n + m) c2 (l ++ l') ∧ w.grownBy w' (Value.slice A n c).ownBlock ∧ Below B w w' := by
  obtain ⟨i0, hi, hz0, hz1, hz2⟩ := info_parts infoBlk_r
  obtain ⟨b, o, rfl, _, hc⟩ := hr.at_ h0
  have hnews : ∀ j u, (blkCells l')[j]? = some u → w.cell? ((⟨b, o, none⟩ : Addr).add j) = some u := by
    intro j u hj
    have hjm : j < l'.length * 2 := by
      have := (List.getElem?_eq_some_iff.1 hj).1
      rwa [blkCells_len] at this
    refine cell_add ?_
    obtain ⟨i, rfl | rfl⟩ : ∃ i, j = i * 2 ∨ j = i * 2 + 1 := ⟨j / 2, by omega⟩
    · rw [(blkCells_at l' i (by omega)).1] at hj
      rw [(hc i (by have := hr.len; omega)).1]; exact hj
    · rw [(blkCells_at l' i (by omega)).2] at hj
      rw [(hc i (by have := hr.len; omega)).2]; exact hj
  obtain ⟨v', w', hrun, hown, hg, _, hat⟩ := run_append_own_at (P := Try.prog) w B 51 ty 56 i0 (.agg #[.int .u32 0, .int .u32 0]) 2 8 Try.underlying51 hi hz0 hz1 hz2 rfl (by omega) (.slice A n c) n _ h ⟨b, o, none⟩ m c' (blkCells l')
    (by rw [blkCells_len, hr.len]) hnews (blkCells_one l') (by unfold maxLen; omega) hs hB
  rw [← blkCells_app] at hown
  obtain ⟨A2, c2, rfl, ho⟩ := OwnK.form hown
  refine ⟨A2, c2, w', hrun, ho, hg, ⟨hg.os, hg.tape, hg.output, hg.size, fun k hk => hg.block k (by omega) (fun e => ?_)⟩⟩
  rcases h.2 with ⟨e1, _⟩ | ⟨g, cap, cur, e1, hBg, _⟩
  · injection e1 with e1 e2 e3
    subst e1
    simp [Value.ownBlock] at e
  · injection e1 with e1 e2 e3
    subst e1
    simp [Value.ownBlock] at e
    omega
theorem wpList_appK_r {ops : Array Oper} {rest : List Oper} {o : Oper} {a : Act} {w : World} {Q : Exit → Act → World → Prop} (hgd : o.guard = none) (s x : Operand)
    (ho : o.op = .call { callee := .builtin .append, args := #[s, x], argTypes := #[51, 51] })
    (B : Nat) (A A' : Option Addr) (n c m c' : Nat) (l l' : List (Int × Int)) (hs : a.eval s = .slice A n c) (hx : a.eval x = .slice A' m c') (h : OwnK 56 w B A n c l) (hr : RdK w A' m l') (h0 : 0 < m) (hsz : (n + m) * 8 ≤ 140737488355328) (hB : B ≤ w.heap.size)
    (hk : ∀ A2 c2 w', OwnK 56 w' B A2 (n + m) c2 (l ++ l') → w.grownBy w' (Value.slice A n c).ownBlock → Below B w w' →
      wpList Try.prog ops Q rest (a.put o.dst (.slice A2 (n + m) c2)) w') : wpList Try.prog ops Q (o :: rest) a w := by
  refine wpList_plain hgd fun K hK => ?_
  obtain ⟨A2, c2, w', hrun, h1, h2, h3⟩ := appK_r w o.type B A A' n c m c' l l' h hr h0 hsz hB
  unfold Oper.wp execOp
  simp only [ho, resolve, invoke, builtin, Sem.run_bind, Sem.run_pure, Result.andThen_ok, List.map_toArray, List.map_cons, List.map_nil, hs, hx, hrun]
  exact hK _ _ (hk A2 c2 w' h1 h2 h3)

/-- Lists out of what holds place by place. -/
theorem pairs_of {P : Nat → Int × Int → Prop} : ∀ (n : Nat), (∀ i, i < n → ∃ p, P i p ∧ U32P p) → ∃ l : List (Int × Int), l.length = n ∧ (∀ i, i < n → P i (l.getD i (0, 0))) ∧ ∀ p ∈ l, U32P p
  | 0, _ => ⟨[], rfl, fun _ h => absurd h (by omega), by simp⟩
  | n + 1, h => by
    obtain ⟨l, h1, h2, h3⟩ := pairs_of (P := P) n (fun i hi => h i (by omega))
    obtain ⟨p, hp, hu⟩ := h n (by omega)
    refine ⟨l ++ [p], by simp [h1], fun i hi => ?_, fun q hq => by rcases List.mem_append.1 hq with h | h; exact h3 q h; simp at h; subst h; exact hu⟩
    rcases Nat.lt_or_ge i n with hlt | hge
    · have e : (l ++ [p]).getD i (0, 0) = l.getD i (0, 0) := by simp [List.getD, List.getElem?_append_left (by omega : i < l.length)]
      rw [e]; exact h2 i hlt
    · obtain rfl : i = n := by omega
      have e : (l ++ [p]).getD i (0, 0) = p := by simp [List.getD, ← h1]
      rw [e]; exact hp
def BlksAt (w : World) (v : Value) : Prop := ∃ A n c l, v = .slice A n c ∧ n ≤ c ∧ c ≤ maxLen ∧ RdK w A n l
theorem blks_open {H : Type} {enc : TypeId × Value → H} {W : World} {base : Nat} {v : Value} {d : DataW H} {p : List MemPlace}
    (hv : Value.okWide Try.prog W .any base 42 v) (h : DataW.Trod enc Try.prog W 0 (fun _ => true) true 42 v d p) : BlksAt W v := by
  obtain ⟨a0, len0, cap0, rfl⟩ := okWide_slice Try.underlying42 hv
  obtain ⟨fu, hm⟩ := h
  have hC : Try.prog.cellsOf 55 = 2 := by kernel_rfl
  have hC1 : Try.prog.cellsOf 53 = 1 := by kernel_rfl
  rcases open_slice Try.underlying42 hm with ⟨hcs, _⟩ | ⟨x, len, cap, m, fu2, D, Pl, hcs, _, hl, hm', hmm, _, hi⟩
  · simp [Value.cells] at hcs
    obtain ⟨rfl, rfl, rfl⟩ := hcs
    exact ⟨none, 0, 0, [], rfl, Nat.le_refl _, by simp [maxLen], RdK.nil _ _⟩
  · simp [Value.cells] at hcs
    obtain ⟨rfl, rfl, rfl⟩ := hcs
    simp only [if_true] at hmm
    subst hmm
    rw [hC] at hi
    have hP : ∀ i, i < len0 → ∃ q : Int × Int, (W.cell? (x.add (i * 2)) = some (.int .u32 q.1) ∧ W.cell? ((x.add (i * 2)).add 1) = some (.int .u32 q.2)) ∧ U32P q := by
      intro i hin
      obtain ⟨cs', hc, ht⟩ := hi i (by omega)
      obtain ⟨y0, y1, fu3, _, hlen, h0, h1⟩ := trod_struct2 Try.underlying55 ht
      rw [hC] at hlen
      obtain ⟨_, hcl, hat⟩ := World.cells?_some hc
      match cs', hlen with
      | [u0, u1], _ =>
        simp [hC1] at h0 h1
        obtain ⟨a, e0, -, w0⟩ := DataW.trod_int Try.underlying53 h0
        obtain ⟨b, e1, -, w1⟩ := DataW.trod_int Try.underlying53 h1
        simp at e0 e1
        subst e0 e1
        have b0 := bounds_u32 w0
        have b1 := bounds_u32 w1
        have c0 := hat 0 (by omega)
        have c1 := hat 1 (by omega)
        simp at c0 c1
        exact ⟨(a, b), ⟨by simpa [Addr.add] using c0, c1⟩, (show 0 ≤ a ∧ a < 4294967296 by omega), (show 0 ≤ b ∧ b < 4294967296 by omega)⟩
    obtain ⟨l, hlen, hp, hu⟩ := pairs_of len0 hP
    refine ⟨some x, len0, _, l, rfl, hl, hm', ⟨hlen, hu, fun hn => ?_⟩⟩
    obtain ⟨b, off, spot⟩ := x
    have hspot : spot = none := by simpa [Addr.add] using World.cell?_spot (hp 0 hn).1
    subst hspot
    refine ⟨b, off, rfl, World.block_lt_of_cell? (w := W) (a := ⟨b, off, none⟩) (by simpa [Addr.add] using (hp 0 hn).1), fun i hin => ?_⟩
    have := hp i hin
    rw [add_plain, add_plain, Nat.add_assoc] at this
    exact this
end Go.Proofs.Ytikfklbgncdbnaa
