/-
  ICMP messages (api.Message), plainly: their bytes, what is read, sorts, ids. No function of the program.
-/
import Derived.Test.YtgcliijngaohdaaDoorWireLay
import Derived.Test.YtgcliijngaohdaaDoorSumPlain
namespace Go.Proofs.YtgcliijngaohdaaDoor
set_option maxRecDepth 10000
open Go.RowKit

/-- A message as numbers. -/
structure Msg where
  ty : Int
  cd : Int
  rs : Int
  d : List Int
structure MsgNum (s : Msg) : Prop where
  ty : 0 ≤ s.ty ∧ s.ty < 256
  cd : 0 ≤ s.cd ∧ s.cd < 256
  rs : 0 ≤ s.rs ∧ s.rs < 4294967296
def zeroM : Msg := ⟨0, 0, 0, []⟩
/-- All but the field. -/
def headM (s : Msg) : List Int := [s.ty, s.cd]
def tailM (s : Msg) : List Int := be32 s.rs ++ s.d
def fieldM (s : Msg) : Int := 65535 - sumL (headM s ++ (be16 0 ++ tailM s))
/-- A message's bytes. -/
def msgB (s : Msg) : List Int := headM s ++ (be16 (fieldM s) ++ tailM s)
def m16 (b : List Int) (i : Nat) : Int := b.getD i 0 * 256 + b.getD (i + 1) 0
def m32 (b : List Int) (i : Nat) : Int := ((b.getD i 0 * 256 + b.getD (i + 1) 0) * 256 + b.getD (i + 2) 0) * 256 + b.getD (i + 3) 0
def errM (b : List Int) : Int := if 1480 < b.length then 3 else if b.length < 8 then 4 else if sumL b = 65535 then 0 else 20
def msgOf (b : List Int) : Msg := ⟨b.getD 0 0, b.getD 1 0, m32 b 4, b.drop 8⟩
def msgSame (s t : Msg) : Bool := decide (s.ty = t.ty) && (decide (s.cd = t.cd) && (decide (s.rs = t.rs) && decide (s.d = t.d)))
theorem msgSame_self (s : Msg) : msgSame s s = true := by simp [msgSame]
/-- 1: asked, 2: told, 3: an error, 0: other. -/
def sortM (ty cd : Int) : Int := if ty = 8 ∧ cd = 0 then 1 else if ty = 0 ∧ cd = 0 then 2 else if ty = 3 ∨ ty = 11 ∨ ty = 12 then 3 else 0
def echoM (ty cd : Int) : Bool := decide ((ty = 8 ∨ ty = 0) ∧ cd = 0)
/-- A message with another id. -/
def withM (s : Msg) (id : Int) : Msg := if echoM s.ty s.cd = true then ⟨s.ty, s.cd, 65536 * id + s.rs % 65536, s.d⟩ else s
def overM (l : List Int) : Msg := ⟨11, 0, 0, l.take 68⟩

theorem msgB_len (s : Msg) : (msgB s).length = 8 + s.d.length := by simp [msgB, headM, tailM, be16, be32]; omega
theorem fieldM_bd (s : Msg) : 0 ≤ fieldM s ∧ fieldM s ≤ 65535 := by unfold fieldM; have := sumL_bd (headM s ++ (be16 0 ++ tailM s)); omega
theorem be16_by {x : Int} (h : 0 ≤ x ∧ x < 65536) : ∀ y ∈ be16 x, 0 ≤ y ∧ y < 256 := by intro y hy; simp [be16] at hy; omega
theorem be32_by {x : Int} (h : 0 ≤ x ∧ x < 4294967296) : ∀ y ∈ be32 x, 0 ≤ y ∧ y < 256 := by intro y hy; simp [be32] at hy; omega
theorem headM_by {s : Msg} (h : MsgNum s) : ∀ y ∈ headM s, 0 ≤ y ∧ y < 256 := by have := h.ty; have := h.cd; intro y hy; simp [headM] at hy; omega
theorem tailM_by {s : Msg} (h : MsgNum s) (hd : ∀ x ∈ s.d, 0 ≤ x ∧ x < 256) : ∀ y ∈ tailM s, 0 ≤ y ∧ y < 256 := Bytes.app (be32_by h.rs) hd
theorem laidM_by {s : Msg} (h : MsgNum s) (hd : ∀ x ∈ s.d, 0 ≤ x ∧ x < 256) {f : Int} (hf : 0 ≤ f ∧ f < 65536) : ∀ y ∈ headM s ++ (be16 f ++ tailM s), 0 ≤ y ∧ y < 256 := Bytes.app (headM_by h) (Bytes.app (be16_by hf) (tailM_by h hd))
theorem msgB_by {s : Msg} (h : MsgNum s) (hd : ∀ x ∈ s.d, 0 ≤ x ∧ x < 256) : ∀ y ∈ msgB s, 0 ≤ y ∧ y < 256 := by
  have := fieldM_bd s
  exact laidM_by h hd (by omega)
theorem msgB_list (s : Msg) : msgB s = s.ty :: s.cd :: fieldM s / 256 :: fieldM s % 256 :: s.rs / 16777216 :: s.rs / 65536 % 256 :: s.rs / 256 % 256 :: s.rs % 256 :: s.d := by simp [msgB, headM, tailM, be16, be32]
theorem msgOf_msgB {s : Msg} (h : MsgNum s) : msgOf (msgB s) = s := by
  obtain ⟨ty, cd, rs, d⟩ := s
  have hr := h.rs
  rw [msgB_list]
  simp only [msgOf, m32, List.getD, List.drop_succ_cons, List.drop_zero, List.getElem?_cons_zero, List.getElem?_cons_succ, Option.getD_some] at hr ⊢
  congr 1
  omega

/-- What the words but the field come to. -/
def restM (s : Msg) : Int := ws false (headM s) + ws false (tailM s)
theorem restM_nn {s : Msg} (h : MsgNum s) (hd : ∀ x ∈ s.d, 0 ≤ x ∧ x < 256) : 0 ≤ restM s := by
  have h1 := ws_nn _ (headM_by h) false
  have h2 := ws_nn _ (tailM_by h hd) false
  unfold restM; omega
theorem ws_b16 (x : Int) : ws false (be16 x) = x := by simp [be16, ws]; omega
theorem ws_laidM (s : Msg) (f : Int) : ws false (headM s ++ (be16 f ++ tailM s)) = restM s + f := by
  rw [ws_even _ _ (by simp [headM]), ws_even _ _ (by simp [be16]), ws_b16]
  unfold restM; omega
theorem fieldM_eq (s : Msg) : fieldM s = 65535 - fold16 (restM s) := by unfold fieldM sumL; rw [ws_laidM]; simp
theorem sum_msgB {s : Msg} (h : MsgNum s) (hd : ∀ x ∈ s.d, 0 ≤ x ∧ x < 256) : sumL (msgB s) = 65535 := by
  have h0 := restM_nn h hd
  unfold sumL msgB
  rw [ws_laidM, fieldM_eq]
  generalize restM s = r at *
  unfold fold16
  split <;> split <;> omega
theorem err_msgB {s : Msg} (h : MsgNum s) (hd : ∀ x ∈ s.d, 0 ≤ x ∧ x < 256) (hl : s.d.length ≤ 1472) : errM (msgB s) = 0 := by
  unfold errM
  rw [msgB_len, if_neg (by omega), if_neg (by omega), if_pos (sum_msgB h hd)]
theorem errM_zero {b : List Int} (h : errM b = 0) : b.length ≤ 1480 ∧ 8 ≤ b.length ∧ sumL b = 65535 := by
  unfold errM at h
  by_cases h1 : 1480 < b.length
  · rw [if_pos h1] at h; omega
  by_cases h2 : b.length < 8
  · rw [if_neg h1, if_pos h2] at h; omega
  by_cases h3 : sumL b = 65535
  · exact ⟨by omega, by omega, h3⟩
  · rw [if_neg h1, if_neg h2, if_neg h3] at h; omega
theorem sum_right (N : Int) : fold16 N = 65535 ↔ 0 < N ∧ N % 65535 = 0 := by unfold fold16; split <;> omega
theorem ws_setM (l : List Int) (p : Bool) (i : Nat) (y : Int) (hi : i < l.length) : ws p (l.set i y) = ws p l + (y - l.getD i 0) * (if xor p (decide (i % 2 = 1)) = true then 1 else 256) := by
  induction l generalizing p i with
  | nil => simp at hi
  | cons x l ih =>
    cases i with
    | zero => cases p <;> simp [ws] <;> omega
    | succ i =>
      have h := fun q => ih q i (by simpa using hi)
      have e : decide ((i + 1) % 2 = 1) = !decide (i % 2 = 1) := by
        by_cases hk : i % 2 = 1
        · rw [show decide (i % 2 = 1) = true by simpa using hk]; simp; omega
        · rw [show decide (i % 2 = 1) = false by simpa using hk]; simp; omega
      rw [e]
      cases p with
      | false =>
        simp only [List.set_cons_succ, ws, h true, List.getD_cons_succ]
        cases decide (i % 2 = 1) <;> simp <;> omega
      | true =>
        simp only [List.set_cons_succ, ws, h false, List.getD_cons_succ]
        cases decide (i % 2 = 1) <;> simp <;> omega
theorem set_by {b : List Int} (hb : ∀ x ∈ b, 0 ≤ x ∧ x < 256) {i : Nat} {y : Int} (hy : 0 ≤ y ∧ y < 256) : ∀ x ∈ b.set i y, 0 ≤ x ∧ x < 256 := fun x hx => by
  rcases List.mem_or_eq_of_mem_set hx with h1 | rfl
  · exact hb x h1
  · exact hy
/-- One byte another one: no message. -/
theorem turnedM {b : List Int} (hb : ∀ x ∈ b, 0 ≤ x ∧ x < 256) (h0 : errM b = 0) (i : Nat) (hi : i < b.length) (y : Int) (hy : 0 ≤ y ∧ y < 256) (hd : y ≠ b.getD i 0) : errM (b.set i y) = 20 := by
  obtain ⟨h1, h2, h3⟩ := errM_zero h0
  have w1 := ws_nn b hb false
  have w2 := ws_nn _ (set_by hb hy (i := i)) false
  unfold errM
  rw [List.length_set, if_neg (by omega), if_neg (by omega), if_neg]
  intro h4
  unfold sumL at h3 h4
  rw [sum_right] at h3 h4
  have hs := ws_setM b false i y hi
  have hx : 0 ≤ b.getD i 0 ∧ b.getD i 0 < 256 := hb _ (by simp only [List.getD, List.getElem?_eq_getElem hi, Option.getD_some]; exact List.getElem_mem _)
  by_cases hk : i % 2 = 1
  · rw [show (xor false (decide (i % 2 = 1))) = true by simp [hk], if_pos rfl] at hs; omega
  · rw [show (xor false (decide (i % 2 = 1))) = false by simp [hk], if_neg (by simp)] at hs; omega
theorem eightM (b : List Int) (h : 8 ≤ b.length) : ∃ b0 b1 b2 b3 b4 b5 b6 b7 l, b = b0 :: b1 :: b2 :: b3 :: b4 :: b5 :: b6 :: b7 :: l := by
  match b, h with
  | b0 :: b1 :: b2 :: b3 :: b4 :: b5 :: b6 :: b7 :: l, _ => exact ⟨_, _, _, _, _, _, _, _, _, rfl⟩
theorem msgOf_num {b : List Int} (hb : ∀ x ∈ b, 0 ≤ x ∧ x < 256) (h8 : 8 ≤ b.length) : MsgNum (msgOf b) ∧ (∀ x ∈ (msgOf b).d, 0 ≤ x ∧ x < 256) := by
  refine ⟨?_, fun x hx => hb x (List.mem_of_mem_drop hx)⟩
  obtain ⟨b0, b1, b2, b3, b4, b5, b6, b7, l, rfl⟩ := eightM b h8
  simp only [List.mem_cons, forall_eq_or_imp] at hb
  obtain ⟨q0, q1, q2, q3, q4, q5, q6, q7, -⟩ := hb
  exact ⟨q0, q1, by simp [msgOf, m32]; omega⟩
/-- What bytes are a message are that one's, but for the field; and the field is alike. -/
theorem backM {b : List Int} (hb : ∀ x ∈ b, 0 ≤ x ∧ x < 256) (h0 : errM b = 0) :
    (msgB (msgOf b)).take 2 = b.take 2 ∧ (msgB (msgOf b)).drop 4 = b.drop 4 ∧ (msgB (msgOf b)).length = b.length ∧ m16 (msgB (msgOf b)) 2 = fieldM (msgOf b) ∧ likeB (fieldM (msgOf b)) (m16 b 2) = true := by
  obtain ⟨h1, h2, h3⟩ := errM_zero h0
  obtain ⟨hn, hd⟩ := msgOf_num hb h2
  have hf := fieldM_bd (msgOf b)
  have hr := restM_nn hn hd
  have hfe := fieldM_eq (msgOf b)
  obtain ⟨b0, b1, b2, b3, b4, b5, b6, b7, l, rfl⟩ := eightM b h2
  simp only [List.mem_cons, forall_eq_or_imp] at hb
  obtain ⟨q0, q1, q2, q3, q4, q5, q6, q7, ql⟩ := hb
  obtain ⟨s, es⟩ : ∃ s, msgOf (b0 :: b1 :: b2 :: b3 :: b4 :: b5 :: b6 :: b7 :: l) = s := ⟨_, rfl⟩
  have e4 : b4 :: b5 :: b6 :: b7 :: l = tailM s := by
    rw [← es]
    simp only [tailM, msgOf, m32, be32, List.getD, List.drop_succ_cons, List.drop_zero, List.getElem?_cons_zero, List.getElem?_cons_succ, Option.getD_some, List.cons_append, List.nil_append]
    congr 1
    · omega
    · congr 1
      · omega
      · congr 1
        · omega
        · congr 1; omega
  have e0 : [b0, b1] = headM s := by rw [← es]; rfl
  rw [es] at hf hr hfe ⊢
  have hlist := msgB_list s
  refine ⟨?_, ?_, ?_, ?_, ?_⟩
  · rw [show List.take 2 (b0 :: b1 :: b2 :: b3 :: b4 :: b5 :: b6 :: b7 :: l) = [b0, b1] from rfl, e0]; simp [msgB, headM]
  · rw [show List.drop 4 (b0 :: b1 :: b2 :: b3 :: b4 :: b5 :: b6 :: b7 :: l) = b4 :: b5 :: b6 :: b7 :: l from rfl, e4]; simp [msgB, headM, be16]
  · rw [msgB_len, ← es]; simp [msgOf]; omega
  · rw [hlist]; simp [m16]; omega
  · have hw : ws false (b0 :: b1 :: b2 :: b3 :: b4 :: b5 :: b6 :: b7 :: l) = restM s + (b2 * 256 + b3) := by
      have := ws_laidM s (b2 * 256 + b3)
      rw [← this, ← e0, ← e4]
      congr 1
      simp [be16]
      omega
    unfold sumL at h3
    rw [hw, sum_right] at h3
    have hm : m16 (b0 :: b1 :: b2 :: b3 :: b4 :: b5 :: b6 :: b7 :: l) 2 = b2 * 256 + b3 := by simp [m16]
    rw [hm]
    have hfm := fold_mod (restM s) hr
    refine like_of _ _ (by unfold U16; omega) (by unfold U16; omega) ?_
    rw [hfe]; omega

theorem withM_num {s : Msg} (h : MsgNum s) {id : Int} (hi : 0 ≤ id ∧ id < 65536) : MsgNum (withM s id) := by
  unfold withM
  split
  · exact ⟨h.ty, h.cd, by have := h.rs; simp only; omega⟩
  · exact h
theorem ws_b32 (x : Int) : ws false (be32 x) = x / 16777216 * 256 + x / 65536 % 256 + (x / 256 % 256 * 256 + x % 256) := by simp [be32, ws]; omega
/-- The field follows the id. -/
theorem withM_field {s : Msg} (h : MsgNum s) (hd : ∀ x ∈ s.d, 0 ≤ x ∧ x < 256) {id : Int} (hi : 0 ≤ id ∧ id < 65536) (he : echoM s.ty s.cd = true) : likeB (wordF (fieldM s) (s.rs / 65536) id) (fieldM (withM s id)) = true := by
  have hw : withM s id = ⟨s.ty, s.cd, 65536 * id + s.rs % 65536, s.d⟩ := by unfold withM; rw [if_pos he]
  have hr := h.rs
  have r1 := restM_nn h hd
  have hn2 := withM_num h hi
  have r2 : 0 ≤ restM (withM s id) := restM_nn hn2 (by rw [hw]; exact hd)
  have e1 : restM s = ws false (headM s) + (ws false (be32 s.rs) + ws false s.d) := by unfold restM tailM; rw [ws_even (be32 s.rs) _ (by simp [be32])]
  have e2 : restM (withM s id) = ws false (headM s) + (ws false (be32 (65536 * id + s.rs % 65536)) + ws false s.d) := by
    rw [hw]; unfold restM tailM; rw [ws_even (be32 _) _ (by simp [be32])]; rfl
  rw [ws_b32] at e1 e2
  have f1 := fieldM_eq s
  have f2 := fieldM_eq (withM s id)
  have g1 := fieldM_bd s
  have g2 := fieldM_bd (withM s id)
  have m1 := fold_mod _ r1
  have m2 := fold_mod _ r2
  refine like_of _ _ (wordF_bd _ _ _ (by unfold U16; omega) (by unfold U16; omega) (by unfold U16; omega)) (by unfold U16; omega) ?_
  rw [wordF_mod, f1, f2]
  omega
end Go.Proofs.YtgcliijngaohdaaDoor
