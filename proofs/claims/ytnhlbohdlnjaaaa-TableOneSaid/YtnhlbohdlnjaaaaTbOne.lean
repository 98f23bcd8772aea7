/-
  What TableOne asks of flows, as plain data: which ids are no longer embryonic; what a tuple is found as; what has been gone over. And delete of a key that a map has not.
-/
import Derived.Test.YtnhlbohdlnjaaaaTbZ
namespace Go.Proofs.Ytnhlbohdlnjaaaa
set_option maxRecDepth 10000
open Go.RowKit
set_option linter.unusedSimpArgs false
set_option linter.unusedVariables false

def KR (L : TL) (id : Int) : Prop := ∃ f, f ∈ L ∧ f.id = id ∧ f.em = false
def idR (L : TL) : List Int := (L.filter (fun f => !f.em)).map (fun f => f.id)
def cR (L : TL) : Nat := (L.filter (fun f => !f.em)).length
theorem KR_iff (L : TL) (e : Int) : KR L e ↔ e ∈ idR L := by
  unfold KR idR
  rw [List.mem_map]
  constructor
  · rintro ⟨f, h1, h2, h3⟩
    exact ⟨f, List.mem_filter.2 ⟨h1, by simp [h3]⟩, h2⟩
  · rintro ⟨f, h1, h2⟩
    obtain ⟨h3, h4⟩ := List.mem_filter.1 h1
    exact ⟨f, h3, h2, by simpa using h4⟩
theorem idR_len (L : TL) : (idR L).length = cR L := by simp [idR, cR]
theorem idR_nodup {L : TL} (h : L.Pairwise Apart) : (idR L).Nodup := by
  unfold idR
  rw [List.Nodup, List.pairwise_map]
  exact (h.sublist List.filter_sublist).imp (fun h => h.id)
theorem KR_perm {L L' : TL} (h : ∀ f, f ∈ L' ↔ f ∈ L) (e : Int) : KR L' e ↔ KR L e := by
  unfold KR
  simp only [h]
theorem KR_ids {M l : Int} {L : TL} (h : okF M l L) {e : Int} (hk : KR L e) : 1 ≤ e ∧ e ≤ l := by
  obtain ⟨f, h1, rfl, _⟩ := hk
  exact h.ids f h1
theorem KR_erase {M l : Int} {L : TL} (h : okF M l L) {k : Nat} (hk : k < L.length) (e : Int) : KR (L.eraseIdx k) e ↔ e ≠ (L.getD k f0).id ∧ KR L e := by
  constructor
  · rintro ⟨f, h1, rfl, h3⟩
    obtain ⟨h4, h5⟩ := (mem_erase h.pw hk).1 h1
    exact ⟨h5, f, h4, rfl, h3⟩
  · rintro ⟨h0, f, h1, rfl, h3⟩
    exact ⟨f, (mem_erase h.pw hk).2 ⟨h1, h0⟩, rfl, h3⟩
theorem KR_push (L : TL) (f : Fl) (hf : f.em = true) (e : Int) : KR (L ++ [f]) e ↔ KR L e := by
  unfold KR
  constructor
  · rintro ⟨g, h1, h2, h3⟩
    rcases List.mem_append.1 h1 with h | h
    · exact ⟨g, h, h2, h3⟩
    · rw [List.mem_singleton] at h; subst h; rw [hf] at h3; cases h3
  · rintro ⟨g, h1, h2, h3⟩
    exact ⟨g, List.mem_append.2 (.inl h1), h2, h3⟩
theorem KR_set {M l : Int} {L : TL} (h : okF M l L) {k : Nat} (hk : k < L.length) (f : Fl) (hid : f.id = (L.getD k f0).id) (e : Int) : KR (L.set k f) e ↔ (e = f.id ∧ f.em = false) ∨ (e ≠ f.id ∧ KR L e) := by
  constructor
  · rintro ⟨g, h1, rfl, h3⟩
    rcases (mem_set2 h.pw hk).1 h1 with rfl | ⟨h4, h5⟩
    · exact .inl ⟨rfl, h3⟩
    · exact .inr ⟨by rw [hid]; exact h5, g, h4, rfl, h3⟩
  · rintro (⟨rfl, h3⟩ | ⟨h0, g, h1, rfl, h3⟩)
    · exact ⟨f, (mem_set2 h.pw hk).2 (.inl rfl), rfl, h3⟩
    · exact ⟨g, (mem_set2 h.pw hk).2 (.inr ⟨h1, by rw [← hid]; exact h0⟩), rfl, h3⟩
theorem KR_at {M l : Int} {L : TL} (h : okF M l L) {k : Nat} (hk : k < L.length) : KR L (L.getD k f0).id ↔ (L.getD k f0).em = false := by
  constructor
  · rintro ⟨g, h1, h2, h3⟩
    rcases pw_or h.pw h1 (getD_mem hk) with e | e
    · rw [← e]; exact h3
    · exact absurd h2 e.id
  · exact fun h3 => ⟨_, getD_mem hk, rfl, h3⟩
theorem add_one {M l : Int} {t x : Tu} {L L' : TL} {n wt er l' : Int} (h : okF M l L) (hx : addF M l t x L = ((n, wt, er), L', l')) :
    (er = 0 ∧ n = l + 1 ∧ l' = l + 1 ∧ wt ≠ n ∧ ¬ KR L wt ∧ ∀ e, KR L' e ↔ KR L e) ∨ (er ≠ 0 ∧ n = 0 ∧ wt = 0 ∧ l' = l ∧ L' = L) := by
  have hlb := h.lb
  unfold addF at hx
  by_cases hz : t = zT
  · rw [if_pos hz] at hx
    simp only [Prod.mk.injEq] at hx
    obtain ⟨⟨rfl, rfl, rfl⟩, rfl, rfl⟩ := hx
    exact .inr ⟨by omega, rfl, rfl, rfl, rfl⟩
  · rw [if_neg hz] at hx
    by_cases hc : isOf (innF t L) = true ∨ isOf (outF x L) = true
    · rw [if_pos hc] at hx
      simp only [Prod.mk.injEq] at hx
      obtain ⟨⟨rfl, rfl, rfl⟩, rfl, rfl⟩ := hx
      exact .inr ⟨by omega, rfl, rfl, rfl, rfl⟩
    · rw [if_neg hc] at hx
      by_cases hr : (L.length : Int) < M
      · rw [if_pos hr] at hx
        simp only [Prod.mk.injEq] at hx
        obtain ⟨⟨rfl, rfl, rfl⟩, rfl, rfl⟩ := hx
        exact .inl ⟨rfl, rfl, rfl, by omega, fun hk => by have := KR_ids h hk; omega, KR_push _ _ rfl⟩
      · rw [if_neg hr] at hx
        cases he : emF L with
        | none =>
          rw [he] at hx
          simp only [Prod.mk.injEq] at hx
          obtain ⟨⟨rfl, rfl, rfl⟩, rfl, rfl⟩ := hx
          exact .inr ⟨by omega, rfl, rfl, rfl, rfl⟩
        | some k =>
          rw [he] at hx
          simp only [Prod.mk.injEq] at hx
          obtain ⟨⟨rfl, rfl, rfl⟩, rfl, rfl⟩ := hx
          obtain ⟨hk, hem, _⟩ := emF_some he
          have hids := h.ids _ (getD_mem hk)
          have hno : ¬ KR L (L.getD k f0).id := fun hq => by rw [(KR_at h hk).1 hq] at hem; cases hem
          refine .inl ⟨rfl, rfl, rfl, by omega, hno, fun e => ?_⟩
          rw [KR_push _ _ rfl, KR_erase h hk]
          exact ⟨fun hq => hq.2, fun hq => ⟨fun e2 => hno (e2 ▸ hq), hq⟩⟩
theorem touch_one {M l : Int} {L L' : TL} {id er : Int} (h : okF M l L) (hx : touchR id L = (er, L')) (e : Int) : KR L' e ↔ KR L e := by
  unfold touchR at hx
  cases he : atF id L with
  | none => rw [he] at hx; simp only [Prod.mk.injEq] at hx; obtain ⟨_, rfl⟩ := hx; exact Iff.rfl
  | some k =>
    rw [he] at hx; simp only [Prod.mk.injEq] at hx; obtain ⟨_, rfl⟩ := hx
    exact KR_perm (fun f => (touch_perm (atF_some he).1).mem_iff) e
theorem ready_one {M l : Int} {L L' : TL} {id er : Int} (h : okF M l L) (hx : readyR id L = (er, L')) : (er = 0 ∧ ∀ e, KR L' e ↔ e = id ∨ KR L e) ∨ (er ≠ 0 ∧ L' = L) := by
  unfold readyR at hx
  cases he : atF id L with
  | none => rw [he] at hx; simp only [Prod.mk.injEq] at hx; obtain ⟨rfl, rfl⟩ := hx; exact .inr ⟨by omega, rfl⟩
  | some k =>
    rw [he] at hx; simp only [Prod.mk.injEq] at hx; obtain ⟨rfl, rfl⟩ := hx
    obtain ⟨hk, hid, _⟩ := atF_some he
    refine .inl ⟨rfl, fun e => ?_⟩
    refine (KR_set h hk { L.getD k f0 with em := false } rfl e).trans ?_
    simp only [hid]
    constructor
    · rintro (⟨h1, _⟩ | ⟨_, h2⟩)
      · exact .inl h1
      · exact .inr h2
    · rintro (h1 | h2)
      · exact .inl ⟨h1, trivial⟩
      · by_cases e2 : e = id
        · exact .inl ⟨e2, trivial⟩
        · exact .inr ⟨e2, h2⟩
theorem drop_one {M l : Int} {L L' : TL} {id er : Int} (h : okF M l L) (hx : dropR id L = (er, L')) : (er = 0 ∧ ∀ e, KR L' e ↔ e ≠ id ∧ KR L e) ∨ (er ≠ 0 ∧ L' = L) := by
  unfold dropR at hx
  cases he : atF id L with
  | none => rw [he] at hx; simp only [Prod.mk.injEq] at hx; obtain ⟨rfl, rfl⟩ := hx; exact .inr ⟨by omega, rfl⟩
  | some k =>
    rw [he] at hx; simp only [Prod.mk.injEq] at hx; obtain ⟨rfl, rfl⟩ := hx
    obtain ⟨hk, hid, _⟩ := atF_some he
    exact .inl ⟨rfl, fun e => by rw [KR_erase h hk, hid]⟩
theorem lead_one {M l : Int} {L L' : TL} {id er : Int} {x : Tu} (h : okF M l L) (hx : leadR id x L = (er, L')) (e : Int) : KR L' e ↔ KR L e := by
  unfold leadR at hx
  cases he : atF id L with
  | none => rw [he] at hx; simp only [Prod.mk.injEq] at hx; obtain ⟨_, rfl⟩ := hx; exact Iff.rfl
  | some k =>
    rw [he] at hx
    simp only at hx
    obtain ⟨hk, hid, _⟩ := atF_some he
    by_cases hc : isOf (outF x L) = true ∧ idOf (outF x L) ≠ id
    · rw [if_pos hc] at hx; simp only [Prod.mk.injEq] at hx; obtain ⟨_, rfl⟩ := hx; exact Iff.rfl
    · rw [if_neg hc] at hx; simp only [Prod.mk.injEq] at hx; obtain ⟨_, rfl⟩ := hx
      refine (KR_set h hk { L.getD k f0 with o := x } rfl e).trans ?_
      simp only
      constructor
      · rintro (⟨h1, h2⟩ | ⟨_, h2⟩)
        · rw [h1]; exact (KR_at h hk).2 h2
        · exact h2
      · intro h2
        by_cases e2 : e = (L.getD k f0).id
        · exact .inl ⟨e2, (KR_at h hk).1 (e2 ▸ h2)⟩
        · exact .inr ⟨e2, h2⟩
section
variable {M l : Int} {L : TL} (h : okF M l L) {t : Nat} (ht : t < L.length)
include h ht
theorem inn_at : idOf (innF (L.getD t f0).i L) = (L.getD t f0).id ∧ isOf (innF (L.getD t f0).i L) = true := by
  have hm := getD_mem ht
  cases he : innF (L.getD t f0).i L with
  | none => exact absurd rfl (innF_none he _ hm)
  | some g =>
    obtain ⟨h1, h2⟩ := innF_some he
    rcases pw_or h.pw h1 hm with e | e
    · rw [e]; exact ⟨rfl, rfl⟩
    · exact absurd h2 e.i
theorem out_at (hz : (L.getD t f0).o ≠ zT) : idOf (outF (L.getD t f0).o L) = (L.getD t f0).id ∧ isOf (outF (L.getD t f0).o L) = true := by
  have hm := getD_mem ht
  cases he : outF (L.getD t f0).o L with
  | none =>
    rcases outF_none he with e | e
    · exact absurd e hz
    · exact absurd rfl (e _ hm)
  | some g =>
    obtain ⟨_, h1, h2⟩ := outF_some he
    rcases pw_or h.pw h1 hm with e | e
    · rw [e]; exact ⟨rfl, rfl⟩
    · rcases e.o with e3 | e3
      · exact absurd (h2 ▸ e3) hz
      · exact absurd h2 e3
theorem flow_one : flowR (L.getD t f0).id L = (L.getD t f0, true) := by
  have hm := getD_mem ht
  unfold flowR
  cases he : atF (L.getD t f0).id L with
  | none => exact absurd rfl (atF_none he _ hm)
  | some k =>
    obtain ⟨h1, h2, _⟩ := atF_some he
    rcases pw_or h.pw (getD_mem h1) hm with e | e
    · simp only [e]
    · exact absurd h2 e.id
end
/-- The inner, the outer tuples of the first t flows. -/
def KI (L : TL) (t : Nat) (a : Tu) : Prop := ∃ k, k < t ∧ k < L.length ∧ (L.getD k f0).i = a
def KO (L : TL) (t : Nat) (a : Tu) : Prop := a ≠ zT ∧ ∃ k, k < t ∧ k < L.length ∧ (L.getD k f0).o = a
theorem KI_no {M l : Int} {L : TL} (h : okF M l L) {t : Nat} (ht : t < L.length) : ¬ KI L t (L.getD t f0).i := by
  rintro ⟨k, h1, h2, h3⟩
  exact (pw_at h.pw h2 ht (by omega)).i h3
theorem KO_no {M l : Int} {L : TL} (h : okF M l L) {t : Nat} (ht : t < L.length) : ¬ KO L t (L.getD t f0).o := by
  rintro ⟨h0, k, h1, h2, h3⟩
  rcases (pw_at h.pw h2 ht (by omega)).o with e | e
  · exact h0 (by rw [← h3, e])
  · exact e h3
theorem KI_succ {L : TL} {t : Nat} (ht : t < L.length) (a : Tu) : (a = (L.getD t f0).i ∨ KI L t a) ↔ KI L (t + 1) a := by
  constructor
  · rintro (rfl | ⟨k, h1, h2, h3⟩)
    · exact ⟨t, by omega, ht, rfl⟩
    · exact ⟨k, by omega, h2, h3⟩
  · rintro ⟨k, h1, h2, h3⟩
    by_cases e : k = t
    · exact .inl (by rw [← h3, e])
    · exact .inr ⟨k, by omega, h2, h3⟩
theorem KO_succ {L : TL} {t : Nat} (ht : t < L.length) (hz : (L.getD t f0).o ≠ zT) (a : Tu) : (a = (L.getD t f0).o ∨ KO L t a) ↔ KO L (t + 1) a := by
  constructor
  · rintro (rfl | ⟨h0, k, h1, h2, h3⟩)
    · exact ⟨hz, t, by omega, ht, rfl⟩
    · exact ⟨h0, k, by omega, h2, h3⟩
  · rintro ⟨h0, k, h1, h2, h3⟩
    by_cases e : k = t
    · exact .inl (by rw [← h3, e])
    · exact .inr ⟨h0, k, by omega, h2, h3⟩
theorem KO_none {L : TL} {t : Nat} (hz : (L.getD t f0).o = zT) (a : Tu) : KO L t a ↔ KO L (t + 1) a := by
  constructor
  · rintro ⟨h0, k, h1, h2, h3⟩
    exact ⟨h0, k, by omega, h2, h3⟩
  · rintro ⟨h0, k, h1, h2, h3⟩
    by_cases e : k = t
    · exact absurd (by rw [← h3, e]; exact hz) h0
    · exact ⟨h0, k, by omega, h2, h3⟩
theorem KI_all (L : TL) (a : Tu) : KI L L.length a ↔ isOf (innF a L) = true := by
  constructor
  · rintro ⟨k, _, h2, h3⟩
    cases he : innF a L with
    | none => exact absurd h3 (innF_none he _ (getD_mem h2))
    | some g => rfl
  · intro hi
    obtain ⟨g, hg⟩ := isOf_some.1 hi
    obtain ⟨h1, h2⟩ := innF_some hg
    obtain ⟨k, hk, e⟩ := mem_at h1
    exact ⟨k, hk, hk, by rw [e]; exact h2⟩
theorem KO_all (L : TL) (a : Tu) : KO L L.length a ↔ isOf (outF a L) = true := by
  constructor
  · rintro ⟨h0, k, _, h2, h3⟩
    cases he : outF a L with
    | none =>
      rcases outF_none he with e | e
      · exact absurd e h0
      · exact absurd h3 (e _ (getD_mem h2))
    | some g => rfl
  · intro hi
    obtain ⟨g, hg⟩ := isOf_some.1 hi
    obtain ⟨h0, h1, h2⟩ := outF_some hg
    obtain ⟨k, hk, e⟩ := mem_at h1
    exact ⟨h0, k, hk, hk, by rw [e]; exact h2⟩
theorem cR_drop {L : TL} {t : Nat} (ht : t < L.length) : cR (L.drop t) = (if (L.getD t f0).em = false then 1 else 0) + cR (L.drop (t + 1)) := by
  have e : L.getD t f0 = L[t] := by simp only [List.getD, List.getElem?_eq_getElem ht, Option.getD_some]
  unfold cR
  rw [List.drop_eq_getElem_cons ht, ← e, List.filter_cons]
  cases (L.getD t f0).em
  · simp; omega
  · simp
theorem cR_end (L : TL) : cR (L.drop L.length) = 0 := by simp [cR]
/-- What a look tells, as a number. -/
theorem MTP.val {w : World} {b : Nat} {K : Tu → Prop} {R : Tu → Value} (h : MTP w b K R) (hR : ∀ t, R t = .int .i64 1) (t : Tu) (c : Bool) (hc : K t ↔ c = true) : (Instr.lookup 65 (.map (some b)) (.agg #[.int .u8 t.pr, .int .u32 t.sr, .int .u32 t.ds, .int .u16 t.sp, .int .u16 t.dp]) false).run Try.prog w = .ok (.int .i64 (if c = true then 1 else 0)) w := by
  cases c with
  | true => rw [h.look_i (hc.2 rfl), hR]; rfl
  | false => exact h.look_no_i (fun hk => by have := hc.1 hk; cases this)
theorem MUP.delno_i {w : World} {b : Nat} {K : Int → Prop} {R : Int → Value} {e : Int} (h : MUP w b K R) (he : ¬ K e) (ty : TypeId) : ∃ w', (Builtin.delete_ #[64, 32] ty #[.map (some b), .int .u64 e]).run Try.prog w = .ok (.tuple #[]) w' ∧ MUP w' b (fun a => a ≠ e ∧ K a) R ∧ But (fun g => g = b) w w' := by
  obtain ⟨es, clock, h⟩ := h
  obtain ⟨hf, hno⟩ := h.find_not he
  refine ⟨setU w b (.map es clock), ?_, ⟨_, _, setU_at _ h.at_, h.st, fun x hx => ?_, fun a ha => h.key a ha.2⟩, setU_but _ _ _⟩
  · simp [setU, Builtin.delete_, run_underlying Try.underlying64, MapKept.run_getObj_map h.at_, check_uU e w, MapKept.run_findKey Try.underlying32 hf, MapKept.run_setObj_map _ h.at_, Result.andThen]
  · obtain ⟨a, ha, hk, hv⟩ := h.ent x hx
    exact ⟨a, ⟨fun q => he (q ▸ ha), ha⟩, hk, hv⟩
theorem MUP.drop_i {w : World} {b : Nat} {K : Int → Prop} {R : Int → Value} (h : MUP w b K R) (e : Int) (ty : TypeId) : ∃ w', (Builtin.delete_ #[64, 32] ty #[.map (some b), .int .u64 e]).run Try.prog w = .ok (.tuple #[]) w' ∧ MUP w' b (fun a => a ≠ e ∧ K a) R ∧ But (fun g => g = b) w w' := by
  by_cases he : K e
  · exact h.del_i he ty
  · exact h.delno_i he ty
end Go.Proofs.Ytnhlbohdlnjaaaa
