/-
  A slice of bytes that reads as a list of numbers ('Rd'), and bytes.Equal of two such slices.
-/
import Derived.Test.YtonbgkdobfefmaaSeqCut
import Derived.Laws.BytesArg
import Derived.Laws.IdiomStrings
import Derived.Lib.SlBytesConst
namespace Go.Proofs.Ytonbgkdobfefmaa
open Go.RowKit

/-- The slice value '.slice A n _' holds the bytes l, in memory that is there. -/
structure Rd (w : World) (A : Option Addr) (n : Nat) (l : List Int) : Prop where
  len : l.length = n
  byte : ∀ x ∈ l, 0 ≤ x ∧ x < 256
  at_ : 0 < n → ∃ b o, A = some ⟨b, o, none⟩ ∧ b < w.heap.size ∧ ∀ i, i < n → w.cell? ⟨b, o + i, none⟩ = some (.int .u8 (l.getD i 0))

theorem Rd.nil (w : World) (A : Option Addr) : Rd w A 0 [] := ⟨rfl, by simp, fun h => absurd h (by omega)⟩
theorem Rd.below {w w' : World} {A : Option Addr} {n : Nat} {l : List Int} (h : Rd w A n l) (hb : Below w.heap.size w w') : Rd w' A n l :=
  ⟨h.len, h.byte, fun hn => by
    obtain ⟨b, o, e, hlt, hc⟩ := h.at_ hn
    exact ⟨b, o, e, Nat.lt_of_lt_of_le hlt hb.size, fun i hi => by rw [hb.cell (p := ⟨b, o + i, none⟩) hlt]; exact hc i hi⟩⟩
theorem Rd.drew {w : World} {A : Option Addr} {n : Nat} {l : List Int} (h : Rd w A n l) (k : Nat) : Rd { w with drawn := k } A n l := ⟨h.len, h.byte, h.at_⟩
theorem Rd.take {w : World} {A : Option Addr} {n k : Nat} {l : List Int} (h : Rd w A n l) (hk : k ≤ n) : Rd w A k (l.take k) := by
  refine ⟨by rw [List.length_take, h.len]; omega, fun x hx => h.byte x (List.mem_of_mem_take hx), fun hn => ?_⟩
  obtain ⟨b, o, e, hlt, hc⟩ := h.at_ (by omega)
  refine ⟨b, o, e, hlt, fun i hi => ?_⟩
  rw [hc i (by omega)]
  simp [List.getD, List.getElem?_take_of_lt hi]
/-- A row that the call made. -/
theorem Rd.row {w : World} {g : Nat} {l : List Int} {t : TypeId} (hg : w.heap[g]? = some (.cells (l.map (Value.int .u8)).toArray t (0, 0))) (hl : ∀ x ∈ l, 0 ≤ x ∧ x < 256) : Rd w (some ⟨g, 0, none⟩) l.length l := by
  refine ⟨rfl, hl, fun _ => ⟨g, 0, rfl, ?_, fun i hi => ?_⟩⟩
  · rcases Nat.lt_or_ge g w.heap.size with h | h
    · exact h
    · rw [Array.getElem?_eq_none h] at hg; cases hg
  · simp [World.cell?, hg, List.getD, List.getElem?_eq_getElem hi]

theorem nums_inj : ∀ (a b : List Int), (∀ x ∈ a, 0 ≤ x ∧ x < 256) → (∀ x ∈ b, 0 ≤ x ∧ x < 256) → a.map (fun n => UInt8.ofNat n.toNat) = b.map (fun n => UInt8.ofNat n.toNat) → a = b
  | [], [], _, _, _ => rfl
  | [], _ :: _, _, _, h => by simp at h
  | _ :: _, [], _, _, h => by simp at h
  | x :: xs, y :: ys, ha, hb, h => by
    simp only [List.map_cons, List.cons.injEq] at h
    have h1 := ha x (by simp)
    have h2 := hb y (by simp)
    have h3 : (UInt8.ofNat x.toNat).toNat = (UInt8.ofNat y.toNat).toNat := by rw [h.1]
    have e1 : (UInt8.ofNat x.toNat).toNat = x.toNat := by simp; omega
    have e2 : (UInt8.ofNat y.toNat).toNat = y.toNat := by simp; omega
    have : x = y := by omega
    rw [this, nums_inj xs ys (fun z hz => ha z (by simp [hz])) (fun z hz => hb z (by simp [hz])) h.2]

theorem conv_rd {w : World} {A : Option Addr} {n : Nat} {l : List Int} (h : Rd w A n l) (c : Nat) :
    (convert 30 9 (.slice A n c)).run Try.prog w = .ok (.string (strOfNums l)) w := by
  rcases Nat.eq_zero_or_pos n with h0 | h0
  · subst h0
    have hl : l = [] := List.eq_nil_of_length_eq_zero h.len
    subst hl
    cases A with
    | none => exact run_convert_bytes_nil (P := Try.prog) w 30 5 Try.underlying30 Try.underlying5 0 c 9 Try.underlying9
    | some a =>
      rw [run_convert_bytes_string (P := Try.prog) w 30 9 5 _ 0 c Try.underlying30 Try.underlying5 Try.underlying9]
      have hl : (loadCells a 0).run Try.prog w = .ok #[] w := by simpa using run_loadCells_list (P := Try.prog) w a [] (by simp)
      have := run_bytesToString (P := Try.prog) w a 0 c [] hl
      rw [this]
      rfl
  · obtain ⟨b, o, rfl, _, hc⟩ := h.at_ h0
    exact run_convert_bytes_arg (P := Try.prog) w 30 5 Try.underlying30 Try.underlying5 b o n c l h.len hc 9 Try.underlying9

theorem equal_any (A A' : Option Addr) (n n' c c' : Nat) (l l' : List Int) (w : World) (h : Rd w A n l) (h' : Rd w A' n' l') :
    Calls Try.prog 20 #[.slice A n c, .slice A' n' c'] w fun e w' => e = .returned (.bool (decide (l = l'))) ∧ w = w' := by
  have h1 := conv_rd h c
  have h2 := conv_rd h' c'
  have hd : ((strOfNums l).toList == (strOfNums l').toList) = decide (l = l') := by
    rw [ByteArray.toList_eq, ByteArray.toList_eq]
    by_cases e : l = l'
    · subst e; simp
    · rw [beq_eq_false_iff_ne.2 (fun x => e (nums_inj _ _ h.byte h'.byte (by simpa [strOfNums_data] using x)))]
      simp [e]
  have Hd := Lib.hid hd
  clear hd h h'
  go_enter Try.func20, Try.ntmps20
  go_wp2
  go_ret
  exact ⟨ret_bool (Hd.out), rfl⟩

/-- What Cut tells: where the part begins, and its bytes. -/
def cutFrom (at_ f lg : Int) (l : List Int) : Int :=
  if pl (0 - sAhead f at_) l.length = pl (min lg 2147483647 - sAhead f at_) l.length then f else sAdd at_ (pl (0 - sAhead f at_) l.length)
def cutBytes (at_ f lg : Int) (l : List Int) : List Int :=
  (l.drop (pl (0 - sAhead f at_) l.length)).take (pl (min lg 2147483647 - sAhead f at_) l.length - pl (0 - sAhead f at_) l.length)

/-- A slice that the call made: nil, or a row of its own in a block from B on. -/
def Own (w' : World) (B : Nat) (v : Value) (l : List Int) : Prop :=
  (v = .slice none 0 0 ∧ l = []) ∨ ∃ g, v = .slice (some ⟨g, 0, none⟩) l.length l.length ∧ B ≤ g ∧ w'.heap[g]? = some (.cells (l.map (Value.int .u8)).toArray 5 (0, 0))

/-- The post of Cut. -/
def CutIs (at_ f lg : Int) (l : List Int) (w : World) (e : Ending) (w' : World) : Prop :=
  ∃ v, e = .returned (.tuple #[.int .u32 (cutFrom at_ f lg l), v]) ∧ Own w' w.heap.size v (cutBytes at_ f lg l) ∧ Below w.heap.size w w'

theorem cut_any (at_ f lg : Int) (A : Option Addr) (n c : Nat) (l : List Int) (w : World) (hl : U32 lg) (hn : n ≤ 2147483647) (hc : n ≤ c) (h : Rd w A n l) :
    Calls Try.prog 18 #[.int .u32 at_, .slice A n c, .int .u32 f, .int .u32 lg] w (CutIs at_ f lg l w) := by
  have hlen := h.len
  have hmono : pl (0 - sAhead f at_) n ≤ pl (min lg 2147483647 - sAhead f at_) n := pl_mono n (by have := hl.1; omega)
  rcases Nat.eq_or_lt_of_le hmono with he | hlt
  · refine (cut_none at_ f lg _ _ A n c _ w hl hn hc ⟨rfl, rfl, rfl, he.symm⟩).mono fun e w' ⟨h1, h2⟩ => ⟨_, ?_, .inl ⟨rfl, ?_⟩, h2⟩
    · rw [h1]; unfold cutFrom; rw [hlen, if_pos he]
    · unfold cutBytes; rw [hlen, he]; simp
  · have hle : pl (min lg 2147483647 - sAhead f at_) n ≤ n := pl_le _ _
    obtain ⟨b, o, rfl, hb, hcell⟩ := h.at_ (by omega)
    obtain ⟨m, hm⟩ : ∃ m, pl (min lg 2147483647 - sAhead f at_) n = pl (0 - sAhead f at_) n + m := ⟨_, (Nat.add_sub_cancel' hmono).symm⟩
    have hm0 : 0 < m := by omega
    have hbl : (cutBytes at_ f lg l).length = m := by unfold cutBytes; rw [hlen, hm, List.length_take, List.length_drop]; omega
    have hbe : cutBytes at_ f lg l = (l.drop (pl (0 - sAhead f at_) n)).take m := by unfold cutBytes; rw [hlen, hm, Nat.add_sub_cancel_left]
    refine (cut_some at_ f lg _ _ b o n c _ m l w hl hn hc hm0 hlen hb hcell ⟨rfl, rfl, rfl, hm⟩).mono fun e w' ⟨h1, h2, h3⟩ => ⟨_, ?_, .inr ⟨w.heap.size + 2, rfl, by omega, ?_⟩, h3⟩
    · rw [h1, hbl]; unfold cutFrom; rw [hlen, if_neg (by omega)]
    · rw [hbe]; exact h2

theorem Own.rd {w' : World} {B : Nat} {v : Value} {l : List Int} (h : Own w' B v l) (hl : ∀ x ∈ l, 0 ≤ x ∧ x < 256) : ∃ A c, v = .slice A l.length c ∧ l.length ≤ c ∧ Rd w' A l.length l := by
  rcases h with ⟨rfl, rfl⟩ | ⟨g, rfl, _, hg⟩
  · exact ⟨none, 0, rfl, Nat.le_refl _, Rd.nil _ _⟩
  · exact ⟨_, _, rfl, Nat.le_refl _, Rd.row hg hl⟩

theorem cutBytes_byte {at_ f lg : Int} {l : List Int} (h : ∀ x ∈ l, 0 ≤ x ∧ x < 256) : ∀ x ∈ cutBytes at_ f lg l, 0 ≤ x ∧ x < 256 :=
  fun x hx => h x (List.mem_of_mem_drop (List.mem_of_mem_take hx))

/-- Cut, its bytes as they read: for whoever does not write to them. -/
def CutRd (at_ f lg : Int) (l : List Int) (w : World) (e : Ending) (w' : World) : Prop :=
  ∃ A c, e = .returned (.tuple #[.int .u32 (cutFrom at_ f lg l), .slice A (cutBytes at_ f lg l).length c]) ∧ (cutBytes at_ f lg l).length ≤ c ∧ Rd w' A (cutBytes at_ f lg l).length (cutBytes at_ f lg l) ∧ Below w.heap.size w w'

theorem cut_rd (at_ f lg : Int) (A : Option Addr) (n c : Nat) (l : List Int) (w : World) (hl : U32 lg) (hn : n ≤ 2147483647) (hc : n ≤ c) (h : Rd w A n l) :
    Calls Try.prog 18 #[.int .u32 at_, .slice A n c, .int .u32 f, .int .u32 lg] w (CutRd at_ f lg l w) :=
  (cut_any at_ f lg A n c l w hl hn hc h).mono fun e w' ⟨v, he, ho, hb⟩ => by
    obtain ⟨A', c', rfl, hc', hr⟩ := ho.rd (cutBytes_byte h.byte)
    exact ⟨A', c', he, hc', hr, hb⟩


/-! awake: the document's examples. -/
theorem below_trans {a b c : World} (h : Below a.heap.size a b) (k : Below b.heap.size b c) : Below a.heap.size a c := h.trans (k.mono h.size)

def Woke (w : World) (e : Ending) (w' : World) : Prop := e = .returned (.bool true) ∧ Below w.heap.size w w'

/-- A constant's bytes, as the walk lays them. -/
theorem Rd.const (w : World) (l : List Int) (t : TypeId) (fr : Nat × Nat) (hl : ∀ x ∈ l, 0 ≤ x ∧ x < 256) : Rd (w.alloc (.cells (l.map (Value.int .u8)).toArray t fr)) (some ⟨w.heap.size, 0, none⟩) l.length l := by
  refine ⟨rfl, hl, fun _ => ⟨w.heap.size, 0, rfl, by simp, fun i hi => ?_⟩⟩
  rw [World.cell?_alloc_mark]
  simp [List.getD, List.getElem?_eq_getElem hi]

set_option maxHeartbeats 2000000 in
theorem awake_any (w : World) : Calls Try.prog 10 #[] w (Woke w) := by
  have e1 : sAdd 4294967295 3 = 2 := by decide
  have e2 : sAhead 4294967294 5 = 7 := by decide
  have e3 : sAhead 5 4294967294 = -7 := by decide
  have e4 : sLess 4294967295 0 = true := by decide
  have e5 : sLess 0 2147483648 = false := by decide
  have e6 : sWithin 1 4294967295 3 = true := by decide
  have e7 : sAccept 5 0 5 0 = true := by decide
  have e8 : sAccept 3 3 5 1 = true := by decide
  have e9 : sAccept 3 2 5 1 = false := by decide
  have hr := Rd.const w [97, 98, 99, 100] 5 (4, 5) (by decide)
  have hcut := cut_rd 8 10 1 _ 4 4 _ _ (by unfold U32; omega) (by omega) (by omega) hr
  unfold CutRd at hcut
  rw [show cutFrom 8 10 1 [97, 98, 99, 100] = 10 by decide, show cutBytes 8 10 1 [97, 98, 99, 100] = [99] by decide] at hcut
  have Hcut := Lib.hid hcut
  clear hcut hr
  have hw0 : Below w.heap.size w (w.alloc (.cells ([97, 98, 99, 100].map (Value.int .u8)).toArray 5 (4, 5))) := (Below.refl _ _).alloc (Nat.le_refl _) _
  have hs : ((strOfNums [99]).toList == [99]) = true := by rw [ByteArray.toList_eq]; decide
  have kc := fun (w : World) (C : Array Value) (n c : Nat) => Lib.run_convert_bytes_const (P := Try.prog) w 30 5 C n c Try.underlying30 Try.underlying5
  go_enter Try.func10, Try.ntmps10
  go_wp2_with (first | (go_at_call 18; refine Hcut.out.mono ?_; rintro e w2 ⟨A2, c2, rfl, -, hr2, hb2⟩; have hB := below_trans hw0 hb2; have hr2 : Rd w2 A2 1 [99] := hr2; have hcv := conv_rd hr2 c2; clear hb2) | (go_at_call 11; refine (add_any _ _ _).mono ?_; rintro e w' ⟨rfl, rfl⟩) | (go_at_call 13; refine (ahead_any _ _ _).mono ?_; rintro e w' ⟨rfl, rfl⟩) | (go_at_call 14; refine (less_any _ _ _).mono ?_; rintro e w' ⟨rfl, rfl⟩) | (go_at_call 16; refine (within_any _ _ _ _).mono ?_; rintro e w' ⟨rfl, rfl⟩) | (go_at_call 21; refine (accept_any _ _ _ _ _ (by omega)).mono ?_; rintro e w3 ⟨rfl, hb3⟩; have hB := below_trans hB hb3; have hr2 := Rd.below hr2 hb3; have hcv := conv_rd hr2 c2; clear hb3))
  go_ret
  exact ⟨rfl, hB⟩
end Go.Proofs.Ytonbgkdobfefmaa
