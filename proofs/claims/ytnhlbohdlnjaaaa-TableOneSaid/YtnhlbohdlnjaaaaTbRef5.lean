/-
  The document's own table: what each of its calls tells and leaves, by name.
-/
import Derived.Test.YtnhlbohdlnjaaaaTbRef4
import Derived.Test.YtnhlbohdlnjaaaaTbRef3
namespace Go.Proofs.Ytnhlbohdlnjaaaa
set_option maxRecDepth 10000
open Go.RowKit
set_option linter.unusedSimpArgs false
set_option linter.unusedVariables false

theorem RefT.just {S : Nat → Prop} {g : Nat} {M last : Int} {L : TL} {v : Value} {w w' : World} {e : Ending} (h : RefT w S g M last L) (ht : JustIs v w e w') : RDoes S g M last L v w e w' := by
  obtain ⟨rfl, rfl⟩ := ht
  exact ⟨rfl, S, h, But.refl _ _, fun k hk => .inl hk⟩
section
variable (S : Nat → Prop) (g : Nat) (M last : Int) (L : TL) (w : World) (h : RefT w S g M last L) (hn : L.length ≤ 1000000)
include h hn
theorem rtouch_t (id er : Int) (L' : TL) (hx : touchR id L = (er, L')) : Calls Try.prog 17 #[.pointer (some ⟨g, 0, none⟩), .int .u64 id] w (RDoes S g M last L' (.int .i64 er) w) := by
  unfold touchR at hx
  cases he : atF id L with
  | none =>
    rw [he] at hx
    simp only [Prod.mk.injEq] at hx
    obtain ⟨rfl, rfl⟩ := hx
    exact (rtouch_none S g M last L w h hn id he).mono (fun e w1 ht => h.just ht)
  | some k =>
    rw [he] at hx
    simp only [Prod.mk.injEq] at hx
    obtain ⟨rfl, rfl⟩ := hx
    exact rtouch_some S g M last L w h hn id k he
theorem rready_t (id er : Int) (L' : TL) (hx : readyR id L = (er, L')) : Calls Try.prog 19 #[.pointer (some ⟨g, 0, none⟩), .int .u64 id] w (RDoes S g M last L' (.int .i64 er) w) := by
  unfold readyR at hx
  cases he : atF id L with
  | none =>
    rw [he] at hx
    simp only [Prod.mk.injEq] at hx
    obtain ⟨rfl, rfl⟩ := hx
    exact (rready_none S g M last L w h hn id he).mono (fun e w1 ht => h.just ht)
  | some k =>
    rw [he] at hx
    simp only [Prod.mk.injEq] at hx
    obtain ⟨rfl, rfl⟩ := hx
    exact rready_some S g M last L w h hn id k he
theorem rdrop_t (id er : Int) (L' : TL) (hx : dropR id L = (er, L')) : Calls Try.prog 21 #[.pointer (some ⟨g, 0, none⟩), .int .u64 id] w (RDoes S g M last L' (.int .i64 er) w) := by
  unfold dropR at hx
  cases he : atF id L with
  | none =>
    rw [he] at hx
    simp only [Prod.mk.injEq] at hx
    obtain ⟨rfl, rfl⟩ := hx
    exact (rdrop_none S g M last L w h hn id he).mono (fun e w1 ht => h.just ht)
  | some k =>
    rw [he] at hx
    simp only [Prod.mk.injEq] at hx
    obtain ⟨rfl, rfl⟩ := hx
    exact rdrop_some S g M last L w h hn id k he
theorem rlead_t (id er : Int) (x : Tu) (L' : TL) (hx : leadR id x L = (er, L')) : Calls Try.prog 16 #[.pointer (some ⟨g, 0, none⟩), .int .u64 id, .agg #[.int .u8 x.pr, .int .u32 x.sr, .int .u32 x.ds, .int .u16 x.sp, .int .u16 x.dp]] w (RDoes S g M last L' (.int .i64 er) w) := by
  unfold leadR at hx
  cases he : atF id L with
  | none =>
    rw [he] at hx
    simp only [Prod.mk.injEq] at hx
    obtain ⟨rfl, rfl⟩ := hx
    exact (rlead_none S g M last L w h hn id x he).mono (fun e w1 ht => h.tells ht)
  | some k =>
    rw [he] at hx
    simp only at hx
    by_cases hc : isOf (outF x L) = true ∧ idOf (outF x L) ≠ id
    · rw [if_pos hc] at hx
      simp only [Prod.mk.injEq] at hx
      obtain ⟨rfl, rfl⟩ := hx
      exact rlead_at S g M last L w h hn id _ _ _ k x _ he rfl rfl (.inl ⟨hc.1, hc.2, rfl, rfl⟩)
    · rw [if_neg hc] at hx
      simp only [Prod.mk.injEq] at hx
      obtain ⟨rfl, rfl⟩ := hx
      exact rlead_at S g M last L w h hn id _ _ _ k x _ he rfl rfl (.inr ⟨fun e => by
        by_cases e2 : idOf (outF x L) = id
        · exact e2
        · exact absurd ⟨e, e2⟩ hc, rfl, rfl⟩)
theorem radd_t (t x : Tu) (n wt er last' : Int) (L' : TL) (hla : 0 ≤ last ∧ last ≤ 1000000) (hx : addF M last t x L = ((n, wt, er), L', last')) :
    Calls Try.prog 14 #[.pointer (some ⟨g, 0, none⟩), .agg #[.int .u8 t.pr, .int .u32 t.sr, .int .u32 t.ds, .int .u16 t.sp, .int .u16 t.dp], .agg #[.int .u8 x.pr, .int .u32 x.sr, .int .u32 x.ds, .int .u16 x.sp, .int .u16 x.dp]] w (RDoes S g M last' L' (.tuple #[.int .u64 n, .int .u64 wt, .int .i64 er]) w) := by
  unfold addF at hx
  by_cases hz : t = zT
  · rw [if_pos hz] at hx
    simp only [Prod.mk.injEq] at hx
    obtain ⟨⟨rfl, rfl, rfl⟩, rfl, rfl⟩ := hx
    exact (radd_zero S g M last L w h hn t x hz).mono (fun e w1 ht => h.tells ht)
  · rw [if_neg hz] at hx
    by_cases hc : isOf (innF t L) = true ∨ isOf (outF x L) = true
    · rw [if_pos hc] at hx
      simp only [Prod.mk.injEq] at hx
      obtain ⟨⟨rfl, rfl, rfl⟩, rfl, rfl⟩ := hx
      exact (radd_there S g M last L w h hn t x _ _ _ _ hz rfl rfl rfl rfl hc).mono (fun e w1 ht => h.tells ht)
    · rw [if_neg hc] at hx
      have hc1 : isOf (innF t L) = false := by cases hq : isOf (innF t L); rfl; exact absurd (.inl hq) hc
      have hc2 : isOf (outF x L) = false := by cases hq : isOf (outF x L); rfl; exact absurd (.inr hq) hc
      by_cases hr : (L.length : Int) < M
      · rw [if_pos hr] at hx
        simp only [Prod.mk.injEq] at hx
        obtain ⟨⟨rfl, rfl, rfl⟩, rfl, rfl⟩ := hx
        exact radd_room S g M last L w h hn t x _ _ hz rfl hc1 rfl hc2 hr hla
      · rw [if_neg hr] at hx
        cases he : emF L with
        | none =>
          rw [he] at hx
          simp only [Prod.mk.injEq] at hx
          obtain ⟨⟨rfl, rfl, rfl⟩, rfl, rfl⟩ := hx
          exact (radd_full S g M last L w h hn t x _ _ hz rfl hc1 rfl hc2 hr he).mono (fun e w1 ht => h.tells ht)
        | some k =>
          rw [he] at hx
          simp only [Prod.mk.injEq] at hx
          obtain ⟨⟨rfl, rfl, rfl⟩, rfl, rfl⟩ := hx
          exact radd_goes S g M last L w h hn t x _ _ k hz rfl hc1 rfl hc2 hr he hla
end
end Go.Proofs.Ytnhlbohdlnjaaaa
