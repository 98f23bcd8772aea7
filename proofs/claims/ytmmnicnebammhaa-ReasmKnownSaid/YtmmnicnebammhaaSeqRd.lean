/-
  A slice of bytes that reads as a list of numbers ('Rd'), and bytes.Equal of two such slices.
-/
import Derived.Test.YtmmnicnebammhaaSeqCut
import Derived.Laws.BytesArg
import Derived.Laws.IdiomStrings
import Derived.Lib.SlBytesConst
namespace Go.Proofs.Ytmmnicnebammhaa
set_option maxRecDepth 10000
open Go.RowKit

/-- What Cut tells: where the part begins, and its bytes. -/
def cutFrom (at_ f lg : Int) (l : List Int) : Int :=
  if pl (0 - sAhead f at_) l.length = pl (min lg 2147483647 - sAhead f at_) l.length then f else sAdd at_ (pl (0 - sAhead f at_) l.length)
def cutBytes (at_ f lg : Int) (l : List Int) : List Int :=
  (l.drop (pl (0 - sAhead f at_) l.length)).take (pl (min lg 2147483647 - sAhead f at_) l.length - pl (0 - sAhead f at_) l.length)

/-- A slice that the call made: nil, or a row of its own in a block from B on. -/
def Own (w' : World) (B : Nat) (v : Value) (l : List Int) : Prop :=
  (v = .slice none 0 0 ∧ l = []) ∨ ∃ g, v = .slice (some ⟨g, 0, none⟩) l.length l.length ∧ B ≤ g ∧ w'.heap[g]? = some (.cells (l.map (Value.int .u8)).toArray 5 (0, 0))

/-- The post of Cut. -/
def CutIs (at_ f lg : Int) (l : List Int) (w : World) (e : Ending) (w' : World) : Prop :=
  ∃ v, e = .returned (.tuple #[.int .u32 (cutFrom at_ f lg l), v]) ∧ Own w' w.heap.size v (cutBytes at_ f lg l) ∧ Below w.heap.size w w'

theorem cut_any (at_ f lg : Int) (A : Option Addr) (n c : Nat) (l : List Int) (w : World) (hl : U32 lg) (hn : n ≤ 2147483647) (hc : n ≤ c) (h : Rd w A n l) :
    Calls Try.prog 24 #[.int .u32 at_, .slice A n c, .int .u32 f, .int .u32 lg] w (CutIs at_ f lg l w) := by
  have hlen := h.len
  have hmono : pl (0 - sAhead f at_) n ≤ pl (min lg 2147483647 - sAhead f at_) n := pl_mono n (by have := hl.1; omega)
  rcases Nat.eq_or_lt_of_le hmono with he | hlt
  · refine (cut_none at_ f lg _ _ A n c _ w hl hn hc ⟨rfl, rfl, rfl, he.symm⟩).mono fun e w' ⟨h1, h2⟩ => ⟨_, ?_, .inl ⟨rfl, ?_⟩, h2⟩
    · rw [h1]; unfold cutFrom; rw [hlen, if_pos he]
    · unfold cutBytes; rw [hlen, he]; simp
  · have hle : pl (min lg 2147483647 - sAhead f at_) n ≤ n := pl_le _ _
    obtain ⟨b, o, rfl, hb, hcell⟩ := h.at_ (by omega)
    obtain ⟨m, hm⟩ : ∃ m, pl (min lg 2147483647 - sAhead f at_) n = pl (0 - sAhead f at_) n + m := ⟨_, (Nat.add_sub_cancel' hmono).symm⟩
    have hm0 : 0 < m := by omega
    have hbl : (cutBytes at_ f lg l).length = m := by unfold cutBytes; rw [hlen, hm, List.length_take, List.length_drop]; omega
    have hbe : cutBytes at_ f lg l = (l.drop (pl (0 - sAhead f at_) n)).take m := by unfold cutBytes; rw [hlen, hm, Nat.add_sub_cancel_left]
    refine (cut_some at_ f lg _ _ b o n c _ m l w hl hn hc hm0 hlen hb hcell ⟨rfl, rfl, rfl, hm⟩).mono fun e w' ⟨h1, h2, h3⟩ => ⟨_, ?_, .inr ⟨w.heap.size + 2, rfl, by omega, ?_⟩, h3⟩
    · rw [h1, hbl]; unfold cutFrom; rw [hlen, if_neg (by omega)]
    · rw [hbe]; exact h2

theorem Own.rd {w' : World} {B : Nat} {v : Value} {l : List Int} (h : Own w' B v l) (hl : ∀ x ∈ l, 0 ≤ x ∧ x < 256) : ∃ A c, v = .slice A l.length c ∧ l.length ≤ c ∧ Rd w' A l.length l := by
  rcases h with ⟨rfl, rfl⟩ | ⟨g, rfl, _, hg⟩
  · exact ⟨none, 0, rfl, Nat.le_refl _, Rd.nil _ _⟩
  · exact ⟨_, _, rfl, Nat.le_refl _, Rd.row hg hl⟩

theorem cutBytes_byte {at_ f lg : Int} {l : List Int} (h : ∀ x ∈ l, 0 ≤ x ∧ x < 256) : ∀ x ∈ cutBytes at_ f lg l, 0 ≤ x ∧ x < 256 :=
  fun x hx => h x (List.mem_of_mem_drop (List.mem_of_mem_take hx))

/-- Cut, its bytes as they read: for whoever does not write to them. -/
def CutRd (at_ f lg : Int) (l : List Int) (w : World) (e : Ending) (w' : World) : Prop :=
  ∃ A c, e = .returned (.tuple #[.int .u32 (cutFrom at_ f lg l), .slice A (cutBytes at_ f lg l).length c]) ∧ (cutBytes at_ f lg l).length ≤ c ∧ Rd w' A (cutBytes at_ f lg l).length (cutBytes at_ f lg l) ∧ Below w.heap.size w w'

theorem cut_rd (at_ f lg : Int) (A : Option Addr) (n c : Nat) (l : List Int) (w : World) (hl : U32 lg) (hn : n ≤ 2147483647) (hc : n ≤ c) (h : Rd w A n l) :
    Calls Try.prog 24 #[.int .u32 at_, .slice A n c, .int .u32 f, .int .u32 lg] w (CutRd at_ f lg l w) :=
  (cut_any at_ f lg A n c l w hl hn hc h).mono fun e w' ⟨v, he, ho, hb⟩ => by
    obtain ⟨A', c', rfl, hc', hr⟩ := ho.rd (cutBytes_byte h.byte)
    exact ⟨A', c', he, hc', hr, hb⟩


/-! awake: the document's examples. -/
end Go.Proofs.Ytmmnicnebammhaa
