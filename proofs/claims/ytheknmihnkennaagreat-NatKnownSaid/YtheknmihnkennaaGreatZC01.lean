/-
  Texts laid together: SumPlain, SumLay, IpPlain, NatP.
-/

/-
  Plain lemmas on sums of words of 16 bits: what goes over the greatest word comes in again below; a total, folded; bytes' words. Nothing of the program.
-/
namespace Go.Proofs.YtheknmihnkennaaGreat
set_option maxRecDepth 10000

def U16 (x : Int) : Prop := 0 ≤ x ∧ x ≤ 65535
/-- A total, folded to 16 bits: 0 only of 0. -/
def fold16 (n : Int) : Int := if n ≤ 0 then 0 else (n - 1) % 65535 + 1
def add16 (a b : Int) : Int := if 65535 < a + b then a + b - 65535 else a + b
theorem fold_bd (n : Int) : 0 ≤ fold16 n ∧ fold16 n ≤ 65535 := by unfold fold16; split <;> omega
theorem fold_mod (n : Int) (h : 0 ≤ n) : fold16 n % 65535 = n % 65535 := by unfold fold16; split <;> omega
theorem fold_pos (n : Int) (h : 0 < n) : 0 < fold16 n := by unfold fold16; split <;> omega
theorem fold_zero : fold16 0 = 0 := rfl
theorem add_fold (n b : Int) (hn : 0 ≤ n) (hb : U16 b) : add16 (fold16 n) b = fold16 (n + b) := by
  unfold U16 at hb
  unfold add16 fold16; (repeat' split) <;> omega
theorem add_bd (a b : Int) (ha : U16 a) (hb : U16 b) : U16 (add16 a b) := by
  unfold U16 add16 at *; split <;> omega
/-- Two fields that are the same but that 0 and ffff are one. -/
def likeB (a b : Int) : Bool := decide (a = b) || (decide (a = 0) && decide (b = 65535)) || (decide (a = 65535) && decide (b = 0))
theorem like_of (a b : Int) (ha : U16 a) (hb : U16 b) (h : a % 65535 = b % 65535) : likeB a b = true := by
  unfold U16 at ha hb
  unfold likeB
  simp
  omega
theorem like_mod (a b : Int) (h : likeB a b = true) : a % 65535 = b % 65535 := by
  unfold likeB at h
  simp at h
  omega

/-- What becomes of a field. -/
def wordF (field was is_ : Int) : Int := 65535 - add16 (add16 (65535 - field) (65535 - was)) is_
theorem wordF_bd (f a b : Int) (hf : U16 f) (ha : U16 a) (hb : U16 b) : U16 (wordF f a b) := by
  have := add_bd _ _ (add_bd (65535 - f) (65535 - a) (by unfold U16 at *; omega) (by unfold U16 at *; omega)) hb
  unfold U16 at *
  unfold wordF
  omega
theorem wordF_mod (f a b : Int) : (wordF f a b) % 65535 = (f + a - b) % 65535 := by
  unfold wordF add16; (repeat' split) <;> omega
/-- All words of bytes, added up (not folded); 'true': the first byte is a word's second one. -/
def ws : Bool → List Int → Int
  | _, [] => 0
  | false, x :: l => 256 * x + ws true l
  | true, x :: l => x + ws false l
def Bytes (l : List Int) : Prop := ∀ x ∈ l, 0 ≤ x ∧ x < 256
def sumL (l : List Int) : Int := fold16 (ws false l)
theorem ws_append (p : Bool) (a b : List Int) : ws p (a ++ b) = ws p a + ws (xor p (decide (a.length % 2 = 1))) b := by
  induction a generalizing p with
  | nil => simp [ws]
  | cons x a ih =>
    have h : decide ((a.length + 1) % 2 = 1) = !decide (a.length % 2 = 1) := by
      by_cases h : a.length % 2 = 1
      · simp [h]; omega
      · simp [h]; omega
    cases p
    · simp only [List.cons_append, ws, ih, List.length_cons, h]
      cases decide (a.length % 2 = 1) <;> simp <;> omega
    · simp only [List.cons_append, ws, ih, List.length_cons, h]
      cases decide (a.length % 2 = 1) <;> simp <;> omega
theorem ws_even (a b : List Int) (h : a.length % 2 = 0) : ws false (a ++ b) = ws false a + ws false b := by
  rw [ws_append]; simp [show ¬ a.length % 2 = 1 by omega]
theorem ws_nn (l : List Int) (h : Bytes l) (p : Bool) : 0 ≤ ws p l := by
  induction l generalizing p with
  | nil => simp [ws]
  | cons x l ih =>
    have hx := h x (by simp)
    have hl : Bytes l := fun y hy => h y (by simp [hy])
    have h1 := ih hl true
    have h2 := ih hl false
    cases p <;> simp only [ws] <;> omega
theorem sumL_bd (l : List Int) : 0 ≤ sumL l ∧ sumL l ≤ 65535 := fold_bd _
theorem Bytes.app {a b : List Int} (h : Bytes a) (k : Bytes b) : Bytes (a ++ b) := fun x hx => by
  rcases List.mem_append.1 hx with h' | h'
  · exact h x h'
  · exact k x h'

/-- How far the words of the bytes d have been added: the sum, the byte that waits, whether one does. -/
structure St (d : List Int) (acc first : Int) (waits : Bool) : Prop where
  w : waits = decide (d.length % 2 = 1)
  a : acc = fold16 (ws false d - (if waits then 256 * first else 0))
  f : 0 ≤ first ∧ first < 256
  n : 0 ≤ ws false d - (if waits then 256 * first else 0)
theorem St.nil : St [] 0 0 false := ⟨by decide, by decide, by decide, by decide⟩
theorem St.bd {d : List Int} {acc first : Int} {waits : Bool} (h : St d acc first waits) : 0 ≤ acc ∧ acc ≤ 65535 := by rw [h.a]; exact fold_bd _
theorem St.one {d : List Int} {acc first : Int} (h : St d acc first true) {b : Int} (hb : 0 ≤ b ∧ b < 256) : St (d ++ [b]) (add16 acc (first * 256 + b)) b false := by
  obtain ⟨h1, h2, h3, h4⟩ := h
  have ho : d.length % 2 = 1 := by simpa using h1.symm
  have e : ws false (d ++ [b]) = ws false d + b := by rw [ws_append]; simp [ho, ws]
  simp only [if_true] at h2 h4
  refine ⟨?_, ?_, hb, ?_⟩
  · simp; omega
  · rw [h2, add_fold _ _ h4 (by unfold U16; omega), e]
    simp only [Bool.false_eq_true, if_false]
    congr 1; omega
  · rw [e]; simp only [Bool.false_eq_true, if_false]; omega
theorem St.two {d : List Int} {acc first : Int} (h : St d acc first false) {b : Int} (hb : 0 ≤ b ∧ b < 256) : St (d ++ [b]) acc b true := by
  obtain ⟨h1, h2, h3, h4⟩ := h
  have ho : ¬ d.length % 2 = 1 := by simpa using h1.symm
  have e : ws false (d ++ [b]) = ws false d + 256 * b := by rw [ws_append]; simp [ho, ws]
  simp only [Bool.false_eq_true, if_false] at h2 h4
  refine ⟨?_, ?_, hb, ?_⟩
  · simp; omega
  · rw [h2, e]
    simp only [if_true]
    congr 1; omega
  · rw [e]; simp only [if_true]; omega
theorem St.end1 {d : List Int} {acc first : Int} (h : St d acc first true) : add16 acc (first * 256) = sumL d := by
  obtain ⟨h1, h2, h3, h4⟩ := h
  simp only [if_true] at h2 h4
  rw [h2, add_fold _ _ h4 (by unfold U16; omega)]
  unfold sumL
  congr 1; omega
theorem St.end0 {d : List Int} {acc first : Int} (h : St d acc first false) : acc = sumL d := by
  obtain ⟨h1, h2, h3, h4⟩ := h
  simp only [Bool.false_eq_true, if_false] at h2
  rw [h2]
  unfold sumL
  congr 1; omega

end Go.Proofs.YtheknmihnkennaaGreat

/-
  Bytes, an even number of them: words laid into them, and what that does to their sum. Plain lists: nothing of the program.
-/
namespace Go.Proofs.YtheknmihnkennaaGreat
set_option maxRecDepth 10000

def wordL (l : List Int) (k : Nat) : Int := l.getD (2 * k) 0 * 256 + l.getD (2 * k + 1) 0
def layL (l : List Int) (k : Nat) (x : Int) : List Int := (l.set (2 * k) (x / 256)).set (2 * k + 1) (x % 256)
theorem ws_set0 (l : List Int) (p : Bool) (i : Nat) (x : Int) (h : i < l.length) : ws p (l.set i x) = ws p l + (if xor p (decide (i % 2 = 1)) then x - l.getD i 0 else 256 * (x - l.getD i 0)) := by
  induction l generalizing p i with
  | nil => simp at h
  | cons y l ih =>
    cases i with
    | zero => cases p <;> simp [ws] <;> omega
    | succ i =>
      have h' : i < l.length := by simpa using h
      have e : decide ((i + 1) % 2 = 1) = !decide (i % 2 = 1) := by
        by_cases hi : i % 2 = 1
        · simp [hi]; omega
        · simp [hi]; omega
      cases p
      · simp only [List.set_cons_succ, ws, ih true i h', List.getD_cons_succ, e]
        cases decide (i % 2 = 1) <;> simp <;> omega
      · simp only [List.set_cons_succ, ws, ih false i h', List.getD_cons_succ, e]
        cases decide (i % 2 = 1) <;> simp <;> omega

theorem layL_len (l : List Int) (k : Nat) (x : Int) : (layL l k x).length = l.length := by simp [layL]
theorem layL_byte {l : List Int} (h : Bytes l) (k : Nat) {x : Int} (hx : U16 x) : Bytes (layL l k x) := by
  unfold U16 at hx
  intro y hy
  rcases List.mem_or_eq_of_mem_set hy with hy | rfl
  · rcases List.mem_or_eq_of_mem_set hy with hy | rfl
    · exact h y hy
    · omega
  · omega
theorem ws_lay (l : List Int) (k : Nat) (x : Int) (h : 2 * k + 1 < l.length) : ws false (layL l k x) = ws false l - wordL l k + x := by
  unfold layL wordL
  rw [ws_set0 _ _ _ _ (by simpa using h), ws_set0 _ _ _ _ (by omega)]
  have e1 : (2 * k + 1) % 2 = 1 := by omega
  have e3 : (l.set (2 * k) (x / 256)).getD (2 * k + 1) 0 = l.getD (2 * k + 1) 0 := by simp [List.getD]
  rw [e3]
  simp [e1]
  omega
theorem wordL_lay_same (l : List Int) (k : Nat) (x : Int) (h : 2 * k + 1 < l.length) : wordL (layL l k x) k = x := by
  unfold layL wordL
  have e1 : ((l.set (2 * k) (x / 256)).set (2 * k + 1) (x % 256)).getD (2 * k) 0 = x / 256 := by
    simp [List.getD, show 2 * k < l.length by omega]
  have e2 : ((l.set (2 * k) (x / 256)).set (2 * k + 1) (x % 256)).getD (2 * k + 1) 0 = x % 256 := by
    simp [List.getD, h]
  rw [e1, e2]
  omega
theorem wordL_lay_other (l : List Int) (k j : Nat) (x : Int) (h : k ≠ j) : wordL (layL l k x) j = wordL l j := by
  unfold layL wordL
  simp [List.getD, show ¬ 2 * k = 2 * j by omega, show ¬ 2 * k + 1 = 2 * j by omega, show ¬ 2 * k = 2 * j + 1 by omega]
theorem wordL_bd {l : List Int} (h : Bytes l) (k : Nat) : U16 (wordL l k) := by
  have hb : ∀ i, 0 ≤ l.getD i 0 ∧ l.getD i 0 < 256 := by
    intro i
    by_cases hj : i < l.length
    · simp only [List.getD, List.getElem?_eq_getElem hj, Option.getD_some]
      exact h _ (List.getElem_mem hj)
    · simp [List.getD, List.getElem?_eq_none (by omega : l.length ≤ i)]
  have h1 := hb (2 * k)
  have h2 := hb (2 * k + 1)
  unfold wordL U16
  omega
end Go.Proofs.YtheknmihnkennaaGreat

/-
  Heads of packets as lists of bytes: what stands ahead of the field, what behind it, the whole. Nothing of the program.
-/
namespace Go.Proofs.YtheknmihnkennaaGreat
set_option maxRecDepth 10000
/-- A number's bytes, the highest first. -/
def b16 (x : Int) : List Int := [x / 256, x % 256]
def b32 (x : Int) : List Int := [x / 16777216, x / 65536 % 256, x / 256 % 256, x % 256]
theorem b16_bytes {x : Int} (h : 0 ≤ x ∧ x < 65536) : Bytes (b16 x) := by unfold b16; intro y hy; simp at hy; omega
theorem b32_bytes {x : Int} (h : 0 ≤ x ∧ x < 4294967296) : Bytes (b32 x) := by unfold b32; intro y hy; simp at hy; omega
def flagsOf (df : Bool) : Int := if df then 16384 else 0
/-- What stands ahead of a header's field (k bytes of options, 'long' in all). -/
def aheadL (tos id_ : Int) (df : Bool) (ttl proto : Int) (k : Nat) (long : Int) : List Int :=
  [64 + (20 + (k : Int)) / 4, tos] ++ b16 long ++ b16 id_ ++ b16 (flagsOf df) ++ [ttl, proto]
def behindL (src dst : Int) (opts : List Int) : List Int := b32 src ++ b32 dst ++ opts
def fieldL (tos id_ : Int) (df : Bool) (ttl proto src dst : Int) (opts : List Int) (long : Int) : Int :=
  65535 - sumL (aheadL tos id_ df ttl proto opts.length long ++ behindL src dst opts)
def packetL (tos id_ : Int) (df : Bool) (ttl proto src dst : Int) (opts payload : List Int) : List Int :=
  aheadL tos id_ df ttl proto opts.length (20 + opts.length + payload.length) ++ b16 (fieldL tos id_ df ttl proto src dst opts (20 + opts.length + payload.length)) ++ behindL src dst opts ++ payload
/-- Whether a head may be. -/
def mayB (ttl : Int) (n : Nat) : Bool := decide (0 < ttl) && decide (n ≤ 40) && decide (n % 4 = 0)

theorem aheadL_len (tos id_ : Int) (df : Bool) (ttl proto : Int) (k : Nat) (long : Int) : (aheadL tos id_ df ttl proto k long).length = 10 := rfl
theorem behindL_len (src dst : Int) (opts : List Int) : (behindL src dst opts).length = 8 + opts.length := by simp [behindL, b32]; omega
theorem fieldL_bd (tos id_ : Int) (df : Bool) (ttl proto src dst : Int) (opts : List Int) (long : Int) : 0 ≤ fieldL tos id_ df ttl proto src dst opts long ∧ fieldL tos id_ df ttl proto src dst opts long < 65536 := by
  unfold fieldL
  have := sumL_bd (aheadL tos id_ df ttl proto opts.length long ++ behindL src dst opts)
  omega
theorem packetL_len (tos id_ : Int) (df : Bool) (ttl proto src dst : Int) (opts payload : List Int) : (packetL tos id_ df ttl proto src dst opts payload).length = 20 + opts.length + payload.length := by
  simp [packetL, behindL_len, aheadL_len, b16]; omega

theorem aheadL_bytes {tos id_ : Int} {df : Bool} {ttl proto : Int} {k : Nat} {long : Int} (h0 : 0 ≤ tos ∧ tos < 256) (h1 : 0 ≤ id_ ∧ id_ < 65536) (h2 : 0 ≤ ttl ∧ ttl < 256) (h3 : 0 ≤ proto ∧ proto < 256) (hk : k ≤ 40) (hl : 0 ≤ long ∧ long < 65536) :
    Bytes (aheadL tos id_ df ttl proto k long) := by
  unfold aheadL
  refine ((((Bytes.app ?_ (b16_bytes hl)).app (b16_bytes h1)).app (b16_bytes ?_)).app ?_)
  · intro y hy; simp at hy; omega
  · unfold flagsOf; split <;> omega
  · intro y hy; simp at hy; omega
theorem behindL_bytes {src dst : Int} {opts : List Int} (h0 : 0 ≤ src ∧ src < 4294967296) (h1 : 0 ≤ dst ∧ dst < 4294967296) (h : Bytes opts) : Bytes (behindL src dst opts) :=
  ((b32_bytes h0).app (b32_bytes h1)).app h

/-- What is asked: the error of the first that is so, or 0. -/
def askE : List (Bool × Int) → Int
  | [] => 0
  | (b, e) :: l => if b then e else askE l
/-- How many bytes a header says it has, how many the packet; its flags. -/
def hdrL (b : List Int) : Int := b.getD 0 0 % 16 * 4
def longL (b : List Int) : Int := b.getD 2 0 * 256 + b.getD 3 0
def flagsL (b : List Int) : Int := b.getD 6 0 * 256 + b.getD 7 0
def faultsIp (b : List Int) : List (Bool × Int) :=
  [(decide (b.getD 0 0 / 16 ≠ 4) || decide (hdrL b < 20), 5), (decide ((b.length : Int) < hdrL b) || decide ((b.length : Int) < longL b), 4), (decide (longL b < b.length), 5),
    (!(sumL (b.take (hdrL b).toNat) == 65535), 20), (decide (32768 ≤ flagsL b), 5), (decide (flagsL b % 16384 ≠ 0), 21), (decide (b.getD 8 0 = 0), 23)]
/-- What is wrong with a packet's bytes, or 0. -/
def errIp (b : List Int) : Int := if 1500 < b.length then 3 else if b.length < 20 then 4 else askE (faultsIp b)
theorem ask7 (x1 x2 x3 x4 x5 x6 x7 : Bool) : askE [(x1, 5), (x2, 4), (x3, 5), (x4, 20), (x5, 5), (x6, 21), (x7, 23)] = 0 ↔ x1 = false ∧ x2 = false ∧ x3 = false ∧ x4 = false ∧ x5 = false ∧ x6 = false ∧ x7 = false := by
  cases x1 <;> cases x2 <;> cases x3 <;> cases x4 <;> cases x5 <;> cases x6 <;> cases x7 <;> decide

/-- Two packets of as many options and one payload, part by part. -/
structure Parts (L L' : List Int) (tos tos' id_ id' : Int) (df df' : Bool) (ttl ttl' proto proto' src src' dst dst' : Int) (m : Nat) : Prop where
  s0 : decide ((L.take 1).drop 0 = (L'.take 1).drop 0) = true
  s1 : decide ((L.take 2).drop 1 = (L'.take 2).drop 1) = (tos == tos')
  s2 : decide ((L.take 4).drop 2 = (L'.take 4).drop 2) = true
  s4 : decide ((L.take 6).drop 4 = (L'.take 6).drop 4) = (id_ == id')
  s6 : decide ((L.take 8).drop 6 = (L'.take 8).drop 6) = (df == df')
  s8 : decide ((L.take 9).drop 8 = (L'.take 9).drop 8) = (ttl == ttl')
  s9 : decide ((L.take 10).drop 9 = (L'.take 10).drop 9) = (proto == proto')
  s12 : decide ((L.take 16).drop 12 = (L'.take 16).drop 12) = (src == src')
  s16 : decide ((L.take 20).drop 16 = (L'.take 20).drop 16) = (dst == dst')
  s20 : decide ((L.take m).drop 20 = (L'.take m).drop 20) = true

end Go.Proofs.YtheknmihnkennaaGreat

/-
  Packets whose words are changed (stage 15, written ahead): plain lists: what a change does to a header's sum, to a payload's, to all other bytes. Nothing of the program.
-/
namespace Go.Proofs.YtheknmihnkennaaGreat
set_option maxRecDepth 10000
set_option linter.unusedSimpArgs false
set_option linter.unusedVariables false

theorem take_lay_lo (b : List Int) (k H : Nat) (n : Int) (h : k < H) : (layL b k n).take (2 * H) = layL (b.take (2 * H)) k n := by
  unfold layL
  rw [List.take_set, List.take_set]
theorem take_lay_hi (b : List Int) (k H : Nat) (n : Int) (h : H ≤ k) : (layL b k n).take (2 * H) = b.take (2 * H) := by
  unfold layL
  rw [List.take_set, List.take_set, List.set_eq_of_length_le (by rw [List.length_set, List.length_take]; omega), List.set_eq_of_length_le (by rw [List.length_take]; omega)]
theorem drop_lay_hi (b : List Int) (k H : Nat) (n : Int) (h : H ≤ k) : (layL b k n).drop (2 * H) = layL (b.drop (2 * H)) (k - H) n := by
  unfold layL
  rw [List.drop_set, if_neg (by omega), List.drop_set, if_neg (by omega), show 2 * k - 2 * H = 2 * (k - H) by omega, show 2 * k + 1 - 2 * H = 2 * (k - H) + 1 by omega]
theorem drop_lay_lo (b : List Int) (k H : Nat) (n : Int) (h : k < H) : (layL b k n).drop (2 * H) = b.drop (2 * H) := by
  unfold layL
  rw [List.drop_set, if_pos (by omega), List.drop_set, if_pos (by omega)]
theorem wordL_take (b : List Int) (k H : Nat) (h : k < H) : wordL (b.take (2 * H)) k = wordL b k := by
  unfold wordL
  simp only [List.getD]
  rw [List.getElem?_take_of_lt (by omega), List.getElem?_take_of_lt (by omega)]
theorem wordL_drop (b : List Int) (k H : Nat) (h : H ≤ k) : wordL (b.drop (2 * H)) (k - H) = wordL b k := by
  unfold wordL
  simp only [List.getD, List.getElem?_drop]
  rw [show 2 * H + 2 * (k - H) = 2 * k by omega, show 2 * H + (2 * (k - H) + 1) = 2 * k + 1 by omega]
/-- What a field becomes. -/
def fixP (pr f was n : Int) : Int := if pr ≠ 6 ∧ wordF f was n = 0 then 65535 else wordF f was n
theorem fixP_bd (pr : Int) {f was n : Int} (hf : U16 f) (ha : U16 was) (hb : U16 n) : U16 (fixP pr f was n) := by
  unfold fixP
  split
  · exact ⟨by omega, by omega⟩
  · exact wordF_bd f was n hf ha hb
theorem fixP_mod (pr f was n : Int) : fixP pr f was n % 65535 = (f + was - n) % 65535 := by
  have h := wordF_mod f was n
  unfold fixP
  split
  · rename_i hc
    rw [hc.2] at h
    omega
  · exact h
theorem fixP_nz {pr f was n : Int} (hp : pr ≠ 6) : fixP pr f was n ≠ 0 := by
  unfold fixP
  by_cases h : wordF f was n = 0
  · rw [if_pos ⟨hp, h⟩]; omega
  · rw [if_neg (fun hc => h hc.2)]; exact h
/-- A word of a packet's bytes becomes another one, and its fields follow: H: how many words its header has; F: the word of the payload's field. -/
def headW (H : Nat) (b : List Int) (k : Nat) (n : Int) : List Int := if k < H then layL (layL b k n) 5 (wordF (wordL (layL b k n) 5) (wordL b k) n) else layL b k n
def overW (pr : Int) (H k : Nat) : Prop := H ≤ k ∨ (6 ≤ k ∧ k ≤ 9 ∧ pr ≠ 1)
instance (pr : Int) (H k : Nat) : Decidable (overW pr H k) := by unfold overW; infer_instance
def chW (pr : Int) (H F : Nat) (b : List Int) (k : Nat) (n : Int) : List Int :=
  if overW pr H k ∧ ¬ (pr = 17 ∧ wordL (headW H b k n) F = 0) then layL (headW H b k n) F (fixP pr (wordL (headW H b k n) F) (wordL b k) n) else headW H b k n
def adW (b : List Int) : Int := wordL b 6 + wordL b 7 + wordL b 8 + wordL b 9
def totW (pr : Int) (H : Nat) (b : List Int) : Int := (if pr = 1 then 0 else adW b) + ws false (b.drop (2 * H))
/-- Where things stand. -/
structure LayW (H F : Nat) (b : List Int) : Prop where
  byte : Bytes b
  h10 : 10 ≤ H
  hF : H ≤ F
  len : 2 * F + 1 < b.length
/-- What changes, and what stays. -/
structure SameW (pr : Int) (H F : Nat) (b b' : List Int) : Prop where
  lay : LayW H F b'
  len : b'.length = b.length
  h : (ws false (b'.take (2 * H)) - ws false (b.take (2 * H))) % 65535 = 0
  p : ¬ (pr = 17 ∧ wordL b F = 0) → (totW pr H b' - totW pr H b) % 65535 = 0
  z : pr = 17 → wordL b F = 0 → wordL b' F = 0
  nz : pr = 17 → wordL b F ≠ 0 → wordL b' F ≠ 0
  i : pr = 1 → b'.drop (2 * H) = b.drop (2 * H) ∨ wordL b' F ≠ 0
theorem SameW.refl {pr : Int} {H F : Nat} {b : List Int} (h : LayW H F b) : SameW pr H F b b := ⟨h, rfl, by simp, fun _ => by simp, fun _ h => h, fun _ h => h, fun _ => .inl rfl⟩
theorem SameW.trans {pr : Int} {H F : Nat} {a b c : List Int} (h : SameW pr H F a b) (k : SameW pr H F b c) : SameW pr H F a c := by
  refine ⟨k.lay, k.len.trans h.len, ?_, fun hn => ?_, fun hp h0 => k.z hp (h.z hp h0), fun hp h0 => k.nz hp (h.nz hp h0), fun hp => ?_⟩
  · have := h.h; have := k.h; omega
  · have h1 := h.p hn
    have h2 := k.p (fun hc => by
      by_cases h0 : wordL a F = 0
      · exact hn ⟨hc.1, h0⟩
      · exact h.nz hc.1 h0 hc.2)
    omega
  · rcases k.i hp with e | e
    · rcases h.i hp with e2 | e2
      · exact .inl (e.trans e2)
      · refine .inr (fun hz => e2 ?_)
        have hF := h.lay.hF
        rw [← wordL_drop b F H hF, ← e, wordL_drop c F H hF]
        exact hz
    · exact .inr e
theorem headW_lay {H F : Nat} {b : List Int} (h : LayW H F b) (k : Nat) {n : Int} (hn : U16 n) : LayW H F (headW H b k n) ∧ (headW H b k n).length = b.length := by
  have hw := wordL_bd h.byte k
  have h5 := wordL_bd (layL_byte h.byte k hn) 5
  have hl := h.len
  unfold headW
  split
  · exact ⟨⟨layL_byte (layL_byte h.byte k hn) 5 (wordF_bd _ _ _ h5 hw hn), h.h10, h.hF, by rw [layL_len, layL_len]; exact hl⟩, by rw [layL_len, layL_len]⟩
  · exact ⟨⟨layL_byte h.byte k hn, h.h10, h.hF, by rw [layL_len]; exact hl⟩, layL_len _ _ _⟩
theorem headW_sum {H F : Nat} {b : List Int} (h : LayW H F b) {k : Nat} {n : Int} (hn : U16 n) (h5 : k ≠ 5) : (ws false ((headW H b k n).take (2 * H)) - ws false (b.take (2 * H))) % 65535 = 0 := by
  have hl := h.len
  have hF := h.hF
  have h10 := h.h10
  unfold headW
  by_cases hk : k < H
  · rw [if_pos hk]
    have e1 : wordL (layL b k n) 5 = wordL b 5 := wordL_lay_other b k 5 n h5
    rw [e1, take_lay_lo _ 5 H _ (by omega), take_lay_lo _ k H _ hk]
    have hlt : (b.take (2 * H)).length = 2 * H := by rw [List.length_take]; omega
    rw [ws_lay _ 5 _ (by rw [layL_len, hlt]; omega), ws_lay _ k _ (by rw [hlt]; omega), wordL_lay_other _ k 5 n h5, wordL_take b k H hk, wordL_take b 5 H (by omega)]
    have := wordF_mod (wordL b 5) (wordL b k) n
    omega
  · rw [if_neg hk, take_lay_hi _ _ _ _ (by omega)]
    simp
theorem headW_drop {H : Nat} {b : List Int} {k : Nat} {n : Int} (h10 : 10 ≤ H) : (headW H b k n).drop (2 * H) = if k < H then b.drop (2 * H) else layL (b.drop (2 * H)) (k - H) n := by
  unfold headW
  by_cases hk : k < H
  · rw [if_pos hk, if_pos hk, drop_lay_lo _ 5 H _ (by omega), drop_lay_lo _ k H _ hk]
  · rw [if_neg hk, if_neg hk, drop_lay_hi _ _ _ _ (by omega)]
theorem headW_word {H : Nat} {b : List Int} {k : Nat} {n : Int} {j : Nat} (hj5 : j ≠ 5) (hjk : j ≠ k) : wordL (headW H b k n) j = wordL b j := by
  unfold headW
  split
  · rw [wordL_lay_other _ 5 j _ (fun e => hj5 e.symm), wordL_lay_other _ k j _ (fun e => hjk e.symm)]
  · rw [wordL_lay_other _ k j _ (fun e => hjk e.symm)]
theorem headW_at {H : Nat} {b : List Int} {k : Nat} {n : Int} (h5 : k ≠ 5) (hl : 2 * k + 1 < b.length) : wordL (headW H b k n) k = n := by
  unfold headW
  split
  · rw [wordL_lay_other _ 5 k _ (fun e => h5 e.symm), wordL_lay_same _ _ _ hl]
  · rw [wordL_lay_same _ _ _ hl]
theorem headW_ad {H : Nat} {b : List Int} {k : Nat} {n : Int} (h5 : k ≠ 5) (hl : 2 * k + 1 < b.length) : adW (headW H b k n) = if 6 ≤ k ∧ k ≤ 9 then adW b - wordL b k + n else adW b := by
  have key : ∀ j, j ≠ 5 → wordL (headW H b k n) j = if j = k then n else wordL b j := fun j hj => by
    by_cases e : j = k
    · rw [if_pos e, e]; exact headW_at h5 hl
    · rw [if_neg e]; exact headW_word hj e
  unfold adW
  rw [key 6 (by omega), key 7 (by omega), key 8 (by omega), key 9 (by omega)]
  by_cases hk : 6 ≤ k ∧ k ≤ 9
  · rw [if_pos hk]
    have : k = 6 ∨ k = 7 ∨ k = 8 ∨ k = 9 := by omega
    rcases this with rfl | rfl | rfl | rfl <;> simp <;> omega
  · rw [if_neg hk, if_neg (by omega), if_neg (by omega), if_neg (by omega), if_neg (by omega)]
theorem chW_same {pr : Int} {H F : Nat} {b : List Int} (h : LayW H F b) {k : Nat} {n : Int} (hn : U16 n) (h5 : k ≠ 5) (hkF : k ≠ F) (hl : 2 * k + 1 < b.length) : SameW pr H F b (chW pr H F b k n) := by
  obtain ⟨hL, hlen⟩ := headW_lay h k hn
  have hF := h.hF
  have h10 := h.h10
  have hFl := h.len
  have hFw : wordL (headW H b k n) F = wordL b F := headW_word (by omega) (fun e => hkF e.symm)
  have hw := wordL_bd h.byte k
  have hfw := wordL_bd h.byte F
  have hs := headW_sum h hn h5
  have hdl : (b.drop (2 * H)).length = b.length - 2 * H := List.length_drop
  -- the total ahead of the field's own change
  have htot : totW pr H (headW H b k n) = totW pr H b + (if overW pr H k then n - wordL b k else 0) := by
    unfold totW
    rw [headW_drop h10, headW_ad h5 hl]
    by_cases hkH : k < H
    · rw [if_pos hkH]
      by_cases hp : pr = 1
      · rw [if_pos hp, if_pos hp, if_neg (show ¬ overW pr H k by unfold overW; omega)]; omega
      · rw [if_neg hp, if_neg hp]
        by_cases hk : 6 ≤ k ∧ k ≤ 9
        · rw [if_pos hk, if_pos (show overW pr H k from .inr ⟨hk.1, hk.2, hp⟩)]; omega
        · rw [if_neg hk, if_neg (show ¬ overW pr H k by unfold overW; omega)]; omega
    · rw [if_neg hkH, if_neg (by omega : ¬ (6 ≤ k ∧ k ≤ 9)), if_pos (show overW pr H k from .inl (by omega)), ws_lay _ _ _ (by rw [hdl]; omega), wordL_drop b k H (by omega)]
      omega
  unfold chW
  rw [hFw]
  by_cases hc : overW pr H k ∧ ¬ (pr = 17 ∧ wordL b F = 0)
  · rw [if_pos hc]
    rw [if_pos hc.1] at htot
    have hfx := fixP_bd pr hfw hw hn
    have hmod := fixP_mod pr (wordL b F) (wordL b k) n
    have hsame : wordL (layL (headW H b k n) F (fixP pr (wordL b F) (wordL b k) n)) F = fixP pr (wordL b F) (wordL b k) n := wordL_lay_same _ _ _ hL.len
    refine ⟨⟨layL_byte hL.byte F hfx, h10, hF, by rw [layL_len]; exact hL.len⟩, by rw [layL_len, hlen], ?_, fun _ => ?_, fun hp h0 => absurd ⟨hp, h0⟩ hc.2, fun hp _ => ?_, fun hp => .inr ?_⟩
    · rw [take_lay_hi _ _ _ _ hF]; exact hs
    · have e : totW pr H (layL (headW H b k n) F (fixP pr (wordL b F) (wordL b k) n)) = totW pr H (headW H b k n) - wordL b F + fixP pr (wordL b F) (wordL b k) n := by
        unfold totW
        rw [drop_lay_hi _ _ _ _ hF, ws_lay _ _ _ (by rw [List.length_drop, hlen]; omega), wordL_drop _ F H hF, hFw]
        have ead : adW (layL (headW H b k n) F (fixP pr (wordL b F) (wordL b k) n)) = adW (headW H b k n) := by
          unfold adW
          rw [wordL_lay_other _ F 6 _ (by omega), wordL_lay_other _ F 7 _ (by omega), wordL_lay_other _ F 8 _ (by omega), wordL_lay_other _ F 9 _ (by omega)]
        rw [ead]
        omega
      rw [e, htot]
      omega
    · rw [hsame]
      exact fixP_nz (by omega)
    · rw [hsame]
      exact fixP_nz (by omega)
  · rw [if_neg hc]
    refine ⟨hL, hlen, hs, fun hnz => ?_, fun _ h0 => by rw [hFw]; exact h0, fun _ h0 => by rw [hFw]; exact h0, fun hp => .inl ?_⟩
    · rw [htot, if_neg (fun ho => hc ⟨ho, hnz⟩)]
      simp
    · have hno : ¬ overW pr H k := fun ho => hc ⟨ho, fun h => by omega⟩
      have hkH : k < H := by unfold overW at hno; omega
      rw [headW_drop h10, if_pos hkH]
end Go.Proofs.YtheknmihnkennaaGreat
