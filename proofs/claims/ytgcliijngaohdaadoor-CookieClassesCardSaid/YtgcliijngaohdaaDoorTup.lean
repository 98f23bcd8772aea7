/-
  Tuples (api.Tuple) as numbers: bytes, order, the other way round. Nothing of the program.
-/
import Derived.Test.YtgcliijngaohdaaDoorRd
import Derived.Test.YtgcliijngaohdaaDoorCmpOr
import Derived.Test.YtgcliijngaohdaaDoorIpPlain
namespace Go.Proofs.YtgcliijngaohdaaDoor
set_option maxRecDepth 10000
open Go.RowKit

structure Tu where
  pr : Int
  sr : Int
  ds : Int
  sp : Int
  dp : Int
structure TuNum (t : Tu) : Prop where
  pr : 0 ≤ t.pr ∧ t.pr < 256
  sr : 0 ≤ t.sr ∧ t.sr < 4294967296
  ds : 0 ≤ t.ds ∧ t.ds < 4294967296
  sp : 0 ≤ t.sp ∧ t.sp < 65536
  dp : 0 ≤ t.dp ∧ t.dp < 65536
def tuB (t : Tu) : List Int := t.pr :: (b32 t.sr ++ (b32 t.ds ++ (b16 t.sp ++ b16 t.dp)))
theorem tuB_len (t : Tu) : (tuB t).length = 13 := by simp [tuB, b32, b16]
theorem tuB_byte {t : Tu} (h : TuNum t) : ∀ x ∈ tuB t, 0 ≤ x ∧ x < 256 := by
  intro x hx
  have h1 := h.pr; have h2 := h.sr; have h3 := h.ds; have h4 := h.sp; have h5 := h.dp
  simp [tuB, b32, b16] at hx
  omega
/-- Lists of numbers, the one ahead of the other. -/
def ltN : List Int → List Int → Bool
  | _, [] => false
  | [], _ :: _ => true
  | a :: x, b :: y => decide (a < b) || (decide (a = b) && ltN x y)
/-- How tuples stand: by Proto, then Src, Dst, SPort, DPort. -/
def cmpT (a b : Tu) : Int := two a.pr b.pr (two a.sr b.sr (two a.ds b.ds (two a.sp b.sp (two a.dp b.dp 0))))
theorem ltN_b32 (x y : Int) (hx : 0 ≤ x ∧ x < 4294967296) (hy : 0 ≤ y ∧ y < 4294967296) (l m : List Int) : ltN (b32 x ++ l) (b32 y ++ m) = (decide (x < y) || (decide (x = y) && ltN l m)) := by
  have e : b32 x ++ l = x / 16777216 :: (x / 65536 % 256) :: (x / 256 % 256) :: (x % 256) :: l := rfl
  have e2 : b32 y ++ m = y / 16777216 :: (y / 65536 % 256) :: (y / 256 % 256) :: (y % 256) :: m := rfl
  rw [e, e2]
  simp only [ltN]
  rw [Bool.eq_iff_iff]
  simp only [Bool.or_eq_true, Bool.and_eq_true, decide_eq_true_eq]
  cases ltN l m <;> simp <;> omega
theorem ltN_b16 (x y : Int) (_hx : 0 ≤ x ∧ x < 65536) (_hy : 0 ≤ y ∧ y < 65536) (l m : List Int) : ltN (b16 x ++ l) (b16 y ++ m) = (decide (x < y) || (decide (x = y) && ltN l m)) := by
  have e : b16 x ++ l = x / 256 :: (x % 256) :: l := rfl
  have e2 : b16 y ++ m = y / 256 :: (y % 256) :: m := rfl
  rw [e, e2]
  simp only [ltN]
  rw [Bool.eq_iff_iff]
  simp only [Bool.or_eq_true, Bool.and_eq_true, decide_eq_true_eq]
  cases ltN l m <;> simp <;> omega
theorem ltN_nil16 (x y : Int) (hx : 0 ≤ x ∧ x < 65536) (hy : 0 ≤ y ∧ y < 65536) : ltN (b16 x) (b16 y) = decide (x < y) := by
  have := ltN_b16 x y hx hy [] []
  simpa [ltN] using this
/-- The order of the bytes is the tuples' own. -/
theorem ltN_tuB {a b : Tu} (ha : TuNum a) (hb : TuNum b) : ltN (tuB a) (tuB b) = decide (cmpT a b < 0) := by
  unfold tuB
  simp only [ltN]
  rw [ltN_b32 _ _ ha.sr hb.sr, ltN_b32 _ _ ha.ds hb.ds, ltN_b16 _ _ ha.sp hb.sp, ltN_nil16 _ _ ha.dp hb.dp]
  unfold cmpT two
  rw [Bool.eq_iff_iff]
  simp only [Bool.or_eq_true, Bool.and_eq_true, decide_eq_true_eq]
  split
  · constructor <;> intro <;> omega
  split
  · constructor <;> intro <;> omega
  split
  · constructor <;> intro <;> omega
  split
  · constructor <;> intro <;> omega
  split
  · constructor <;> intro <;> omega
  split
  · constructor <;> intro <;> omega
  split
  · constructor <;> intro <;> omega
  split
  · constructor <;> intro <;> omega
  split
  · constructor <;> intro <;> omega
  split
  · constructor <;> intro <;> omega
  constructor <;> intro <;> omega
theorem cmpT_bd (a b : Tu) : cmpT a b = -1 ∨ cmpT a b = 0 ∨ cmpT a b = 1 := by
  unfold cmpT two
  repeat' split
  all_goals simp
theorem cmpT_turn (a b : Tu) : cmpT b a = - cmpT a b := by
  unfold cmpT two
  repeat' split
  all_goals omega
theorem cmpT_zero (a b : Tu) : cmpT a b = 0 ↔ a = b := by
  obtain ⟨p1, s1, d1, x1, y1⟩ := a
  obtain ⟨p2, s2, d2, x2, y2⟩ := b
  unfold cmpT two
  simp only [Tu.mk.injEq]
  repeat' split
  all_goals (constructor <;> intro <;> omega)
theorem ltN_trans : ∀ (a b c : List Int), ltN a b = true → ltN b c = true → ltN a c = true
  | _, [], _, h, _ => by cases ‹List Int› <;> simp [ltN] at h
  | _, _ :: _, [], _, h => by simp [ltN] at h
  | [], _ :: _, _ :: _, _, _ => rfl
  | x :: xs, y :: ys, z :: zs, h1, h2 => by
    simp only [ltN, Bool.or_eq_true, Bool.and_eq_true, decide_eq_true_eq] at h1 h2 ⊢
    rcases h1 with h1 | ⟨h1, k1⟩
    · rcases h2 with h2 | ⟨h2, k2⟩
      · exact .inl (by omega)
      · exact .inl (by omega)
    · rcases h2 with h2 | ⟨h2, k2⟩
      · exact .inl (by omega)
      · exact .inr ⟨by omega, ltN_trans xs ys zs k1 k2⟩
theorem cmpT_trans {a b c : Tu} (ha : TuNum a) (hb : TuNum b) (hc : TuNum c) (h1 : cmpT a b ≤ 0) (h2 : cmpT b c ≤ 0) : cmpT a c < 0 ∨ (cmpT a c = 0 ∧ cmpT a b = 0 ∧ cmpT b c = 0) := by
  by_cases e1 : cmpT a b = 0
  · have := (cmpT_zero a b).1 e1
    subst this
    by_cases e2 : cmpT a c = 0
    · exact .inr ⟨e2, e1, e2⟩
    · exact .inl (by omega)
  by_cases e2 : cmpT b c = 0
  · have := (cmpT_zero b c).1 e2
    subst this
    exact .inl (by omega)
  left
  have k1 := ltN_tuB ha hb
  have k2 := ltN_tuB hb hc
  have k3 := ltN_tuB ha hc
  rw [decide_eq_true (by omega : cmpT a b < 0)] at k1
  rw [decide_eq_true (by omega : cmpT b c < 0)] at k2
  rw [ltN_trans _ _ _ k1 k2] at k3
  simpa using k3.symm
/-- The other way round. -/
def revT (t : Tu) : Tu := if t.pr = 1 then ⟨t.pr, t.ds, t.sr, t.sp, t.dp⟩ else ⟨t.pr, t.ds, t.sr, t.dp, t.sp⟩
theorem revT_twice (t : Tu) : revT (revT t) = t := by
  obtain ⟨p, s, d, x, y⟩ := t
  unfold revT
  by_cases h : p = 1 <;> simp [h]
theorem revT_num {t : Tu} (h : TuNum t) : TuNum (revT t) := by
  unfold revT
  split
  · exact ⟨h.pr, h.ds, h.sr, h.sp, h.dp⟩
  · exact ⟨h.pr, h.ds, h.sr, h.dp, h.sp⟩
theorem revT_inj (a b : Tu) : revT a = revT b ↔ a = b :=
  ⟨fun h => by rw [← revT_twice a, ← revT_twice b, h], fun h => by rw [h]⟩
def noneT (t : Tu) : Bool := decide (t.pr = 0) && (decide (t.sr = 0) && (decide (t.ds = 0) && (decide (t.sp = 0) && decide (t.dp = 0))))
theorem noneT_rev (t : Tu) : noneT (revT t) = noneT t := by
  unfold noneT revT
  rw [Bool.eq_iff_iff]
  by_cases h : t.pr = 1
  · simp [h]
  · simp [h]; omega
theorem tuB_inj {a b : Tu} (ha : TuNum a) (hb : TuNum b) (h : tuB a = tuB b) : a = b := by
  have h1 := ltN_tuB ha hb
  have h2 := ltN_tuB hb ha
  have hs : ∀ l : List Int, ltN l l = false := by
    intro l
    induction l with
    | nil => rfl
    | cons x l ih => simp [ltN, ih]
  rw [h, hs] at h1
  rw [h, hs] at h2
  rw [cmpT_turn a b] at h2
  have e1 : ¬ cmpT a b < 0 := by simpa using h1.symm
  have e2 : ¬ -cmpT a b < 0 := by simpa using h2.symm
  exact (cmpT_zero a b).1 (by omega)
/-- Strings of bytes stand as their lists. -/
theorem less_nums : ∀ (a b : List Int), (∀ x ∈ a, 0 ≤ x ∧ x < 256) → (∀ x ∈ b, 0 ≤ x ∧ x < 256) → Op.bytesLess (a.map fun n => UInt8.ofNat n.toNat) (b.map fun n => UInt8.ofNat n.toNat) = ltN a b
  | [], [], _, _ => rfl
  | [], _ :: _, _, _ => rfl
  | _ :: _, [], _, _ => rfl
  | x :: xs, y :: ys, ha, hb => by
    have ih := less_nums xs ys (fun z hz => ha z (.tail _ hz)) (fun z hz => hb z (.tail _ hz))
    have hx := ha x (.head _)
    have hy := hb y (.head _)
    obtain ⟨m, rfl⟩ := Int.eq_ofNat_of_zero_le hx.1
    obtain ⟨n, rfl⟩ := Int.eq_ofNat_of_zero_le hy.1
    have hm : m < 256 := by omega
    have hn : n < 256 := by omega
    have e1 : (UInt8.ofNat (m : Int).toNat < UInt8.ofNat (n : Int).toNat) ↔ m < n := by
      rw [UInt8.lt_iff_toNat_lt]; simp [Nat.mod_eq_of_lt hm, Nat.mod_eq_of_lt hn]
    have e2 : (UInt8.ofNat (m : Int).toNat = UInt8.ofNat (n : Int).toNat) ↔ m = n := by
      rw [← UInt8.toNat_inj]; simp [Nat.mod_eq_of_lt hm, Nat.mod_eq_of_lt hn]
    simp only [List.map_cons, Op.bytesLess, ltN, ih]
    rw [Bool.eq_iff_iff]
    simp only [Bool.or_eq_true, Bool.and_eq_true, decide_eq_true_eq, beq_iff_eq, e1, e2]
    cases ltN xs ys <;> simp <;> omega
theorem less_str (a b : List Int) (ha : ∀ x ∈ a, 0 ≤ x ∧ x < 256) (hb : ∀ x ∈ b, 0 ≤ x ∧ x < 256) : Op.bytesLess (strOfNums a).toList (strOfNums b).toList = ltN a b := by
  rw [ByteArray.toList_eq, ByteArray.toList_eq]
  exact less_nums a b ha hb
end Go.Proofs.YtgcliijngaohdaaDoor
