/-
  Bytes that are sent until they are acknowledged: what a buffer has, tells, leaves. Nothing of the program.
-/
import Derived.WalkKit
namespace Go.Proofs.Ytncbkgcblmohoaa
set_option maxRecDepth 10000
set_option linter.unusedSimpArgs false
set_option linter.unusedVariables false

/-- What a buffer has: its bytes from Una on, how many of these were sent, the window, and what its alarm hangs on. -/
structure XS where
  una : Int
  bs : List Int
  sent : Nat
  win : Int
  rto : Int
  tries : Int
  wait : Int
  alarm : Int
  count : Int
def numX (x : Int) : Int := x % 4294967296
/-- How far a number is ahead of another one, either way. -/
def farX (a b : Int) : Int := (b - a + 2147483648) % 4294967296 - 2147483648
structure OkX (s : XS) : Prop where
  una : 0 ≤ s.una ∧ s.una < 4294967296
  byte : ∀ x ∈ s.bs, 0 ≤ x ∧ x < 256
  len : s.bs.length ≤ 16384
  sent : s.sent ≤ s.bs.length
  win : 0 ≤ s.win ∧ s.win ≤ 1073741824
  rto : 1 ≤ s.rto ∧ s.rto ≤ 1073741824
  tries : 1 ≤ s.tries ∧ s.tries ≤ 10
  count : 0 ≤ s.count ∧ s.count ≤ s.tries
  wait : s.wait = s.rto * 2 ^ s.count.toNat
  alarm : 0 ≤ s.alarm ∧ s.alarm ≤ 8796093022208
def newX (a win rto tries : Int) : XS := ⟨a, [], 0, win, rto, tries, rto, 0, 0⟩
def badX (win rto tries : Int) : Prop := rto < 1 ∨ 1073741824 < rto ∨ tries < 1 ∨ 10 < tries ∨ 1073741824 < win
def nxtX (s : XS) : Int := numX (s.una + s.sent)
def endX (s : XS) : Int := numX (s.una + s.bs.length)
def setX (s : XS) : Bool := !s.bs.isEmpty
def alarmX (s : XS) : Int := if setX s = true then s.alarm else 0
def anewX (now : Int) (s : XS) : XS := { s with wait := s.rto, count := 0, alarm := now + s.rto }
def longX (data : List Int) (s : XS) : Bool := decide (16384 < s.bs.length + data.length)
def writeE (data : List Int) (s : XS) : Int := if longX data s = true then 3 else 0
def layX (data : List Int) (s : XS) : XS := { s with bs := s.bs ++ data }
def writeS (data : List Int) (now : Int) (s : XS) : XS := if longX data s = true then s else if s.bs = [] ∧ data ≠ [] then anewX now (layX data s) else layX data s
def badM (mss : Int) : Bool := decide (mss < 1 ∨ 1500 < mss)
/-- How many bytes from Una on may have been sent. -/
def limX (s : XS) : Nat := min s.bs.length s.win.toNat
/-- Bytes in pieces of m, the first one at number a. -/
def cutX (m : Nat) : Nat → Int → List Int → List (Int × List Int)
  | 0, _, _ => []
  | f + 1, a, l => if l = [] then [] else (a, l.take m) :: cutX m f (numX (a + ((l.take m).length : Nat))) (l.drop m)
def sendR (s : XS) : List Int := (s.bs.take (limX s)).drop s.sent
def sendL (mss : Int) (s : XS) : List (Int × List Int) := if badM mss = true then [] else cutX mss.toNat (sendR s).length (nxtX s) (sendR s)
def sendE (mss : Int) : Int := if badM mss = true then 1 else 0
def sendS (mss : Int) (s : XS) : XS := if badM mss = true then s else { s with sent := max s.sent (limX s) }
def ackBad (ack win : Int) (s : XS) : Bool := decide (farX s.una ack < 0 ∨ (s.sent : Int) < farX s.una ack ∨ 1073741824 < win)
def ackE (ack win : Int) (s : XS) : Int := if ackBad ack win s = true then 1 else 0
def ackN (ack win : Int) (s : XS) : Int := if ackBad ack win s = true then 0 else farX s.una ack
def goneX (n : Nat) (win : Int) (s : XS) : XS := { s with una := numX (s.una + (n : Int)), bs := s.bs.drop n, sent := s.sent - n, win := win }
def ackS (ack win now : Int) (s : XS) : XS := if ackBad ack win s = true then s else if farX s.una ack = 0 then { s with win := win } else anewX now (goneX (farX s.una ack).toNat win s)
def dueX (now : Int) (s : XS) : Bool := setX s && decide (s.alarm ≤ now)
/-- What a Tick does: nothing, since mss is wrong (1); since nothing is due (2); since it is given up (3); or it tells a piece (4). -/
def tickK (mss now : Int) (s : XS) : Nat := if badM mss = true then 1 else if dueX now s = false then 2 else if s.tries ≤ s.count then 3 else 4
def tickE (mss now : Int) (s : XS) : Int := if tickK mss now s = 1 then 1 else if tickK mss now s = 3 then 7 else 0
def tickB (mss now : Int) (s : XS) : Bool := decide (tickK mss now s = 4)
def tickD (mss now : Int) (s : XS) : List Int := if tickK mss now s = 4 then s.bs.take (min mss.toNat (max 1 s.win.toNat)) else []
def tickA (mss now : Int) (s : XS) : Int := if tickK mss now s = 4 then s.una else 0
def tickS (mss now : Int) (s : XS) : XS :=
  if tickK mss now s = 4 then { s with count := s.count + 1, wait := s.wait + s.wait, alarm := now + (s.wait + s.wait), sent := max s.sent (tickD mss now s).length } else s

theorem numX_bd (x : Int) : 0 ≤ numX x ∧ numX x < 4294967296 := by unfold numX; omega
theorem numX_num (x y : Int) : numX (numX x + y) = numX (x + y) := by unfold numX; omega
theorem pow_bd {k : Nat} (h : k ≤ 10) : (1 : Int) ≤ 2 ^ k ∧ (2 : Int) ^ k ≤ 1024 := by
  have : ∀ k : Nat, k ≤ 10 → (1 : Int) ≤ 2 ^ k ∧ (2 : Int) ^ k ≤ 1024 := by decide
  exact this k h
theorem OkX.waits {s : XS} (h : OkX s) : 1 ≤ s.wait ∧ s.wait ≤ 1099511627776 := by
  have h1 := pow_bd (k := s.count.toNat) (by have := h.count; have := h.tries; omega)
  have h2 := h.rto
  rw [h.wait]
  constructor
  · have := Int.mul_le_mul h2.1 h1.1 (by omega) (by omega)
    omega
  · have := Int.mul_le_mul h2.2 h1.2 (by omega) (by omega)
    omega
theorem new_okX {a win rto tries : Int} (ha : 0 ≤ a ∧ a < 4294967296) (hw : 0 ≤ win) (h : ¬ badX win rto tries) : OkX (newX a win rto tries) := by
  unfold badX at h
  refine ⟨ha, by simp [newX], by simp [newX], by simp [newX], ?_, ?_, ?_, ?_, by simp [newX], by simp [newX]⟩ <;> (simp only [newX]; omega)
theorem anew_ok {s : XS} {now : Int} (h : OkX s) (hn : 0 ≤ now ∧ now ≤ 4398046511104) : OkX (anewX now s) := by
  have h1 := h.rto
  have h2 := h.tries
  exact ⟨h.una, h.byte, h.len, h.sent, h.win, h.rto, h.tries, by simp only [anewX]; omega, by simp [anewX], by simp only [anewX]; omega⟩
theorem write_ok {s : XS} {now : Int} {data : List Int} (h : OkX s) (hn : 0 ≤ now ∧ now ≤ 4398046511104) (hd : ∀ x ∈ data, 0 ≤ x ∧ x < 256) : OkX (writeS data now s) := by
  unfold writeS
  by_cases hl : longX data s = true
  · rw [if_pos hl]; exact h
  · rw [if_neg hl]
    have hl2 : s.bs.length + data.length ≤ 16384 := by
      unfold longX at hl
      simpa using hl
    have h2 : OkX (layX data s) := ⟨h.una, fun x hx => by
      rcases List.mem_append.1 hx with h3 | h3
      · exact h.byte x h3
      · exact hd x h3, by simp only [layX, List.length_append]; omega, by simp only [layX, List.length_append]; have := h.sent; omega, h.win, h.rto, h.tries, h.count, h.wait, h.alarm⟩
    split
    · exact anew_ok h2 hn
    · exact h2
theorem lim_le (s : XS) : limX s ≤ s.bs.length := Nat.min_le_left _ _
theorem send_ok {s : XS} {mss : Int} (h : OkX s) : OkX (sendS mss s) := by
  unfold sendS
  split
  · exact h
  · exact ⟨h.una, h.byte, h.len, by have := lim_le s; have := h.sent; simp only []; omega, h.win, h.rto, h.tries, h.count, h.wait, h.alarm⟩
theorem ack_ok {s : XS} {ack win now : Int} (h : OkX s) (hn : 0 ≤ now ∧ now ≤ 4398046511104) (hw : 0 ≤ win) : OkX (ackS ack win now s) := by
  unfold ackS
  by_cases hb : ackBad ack win s = true
  · rw [if_pos hb]; exact h
  · rw [if_neg hb]
    have hb2 : ¬ (farX s.una ack < 0 ∨ (s.sent : Int) < farX s.una ack ∨ 1073741824 < win) := by
      unfold ackBad at hb
      simpa using hb
    have hwin : 0 ≤ win ∧ win ≤ 1073741824 := by omega
    split
    · exact ⟨h.una, h.byte, h.len, h.sent, hwin, h.rto, h.tries, h.count, h.wait, h.alarm⟩
    · refine anew_ok ⟨numX_bd _, fun x hx => h.byte x (List.mem_of_mem_drop hx), ?_, ?_, hwin, h.rto, h.tries, h.count, h.wait, h.alarm⟩ hn
      · simp only [goneX, List.length_drop]; have := h.len; omega
      · simp only [goneX, List.length_drop]; have := h.sent; omega
theorem tick_ok {s : XS} {mss now : Int} (h : OkX s) (hn : 0 ≤ now ∧ now ≤ 4398046511104) : OkX (tickS mss now s) := by
  unfold tickS
  by_cases hk : tickK mss now s = 4
  · rw [if_pos hk]
    have hc : s.count < s.tries := by
      unfold tickK at hk
      repeat' split at hk
      all_goals first | omega | skip
    have hw := h.waits
    have hc0 := h.count
    have h3 := h.tries
    refine ⟨h.una, h.byte, h.len, ?_, h.win, h.rto, h.tries, by simp only []; omega, ?_, by simp only []; omega⟩
    · have h1 := h.sent
      have h2 : (tickD mss now s).length ≤ s.bs.length := by
        unfold tickD
        rw [if_pos hk, List.length_take]
        omega
      simp only []
      omega
    · simp only []
      have e : (s.count + 1).toNat = s.count.toNat + 1 := by omega
      rw [e, Int.pow_succ, h.wait, ← Int.mul_assoc]
      omega
  · rw [if_neg hk]; exact h
end Go.Proofs.Ytncbkgcblmohoaa
