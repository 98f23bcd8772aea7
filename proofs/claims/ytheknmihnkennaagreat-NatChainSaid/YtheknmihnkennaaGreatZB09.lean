/-
  Texts laid together: Dg, PkVal, Made, OptPlain.
-/
import Derived.Test.YtheknmihnkennaaGreatZB02
import Derived.Test.YtheknmihnkennaaGreatZB06
import Derived.Test.YtheknmihnkennaaGreatZB08
import Derived.Test.YtheknmihnkennaaGreatZB05
import Derived.Test.YtheknmihnkennaaGreatZB04

/-
  Datagrams as numbers and a list.
-/
namespace Go.Proofs.YtheknmihnkennaaGreat
set_option maxRecDepth 10000

/-- A datagram, plainly. -/
structure Dg where
  sp : Int
  dp : Int
  d : List Int
structure DgNum (s : Dg) : Prop where
  sp : 0 ≤ s.sp ∧ s.sp < 65536
  dp : 0 ≤ s.dp ∧ s.dp < 65536
end Go.Proofs.YtheknmihnkennaaGreat

/-
  Packets (api.Packet) as values: a head, a segment, a datagram, a message, as numbers and lists; how they lie in memory. No function of the program.
-/
namespace Go.Proofs.YtheknmihnkennaaGreat
set_option maxRecDepth 10000
open Go.RowKit

structure Pk where
  h : Hd
  s : Seg
  u : Dg
  m : Msg
/-- Where the parts' rows lie. -/
structure PkA where
  AH : Option Addr
  nH : Nat
  cH : Nat
  AO : Option Addr
  nO : Nat
  cO : Nat
  os : List OptV
  AD : Option Addr
  nD : Nat
  cD : Nat
  AU : Option Addr
  nU : Nat
  cU : Nat
  AM : Option Addr
  nM : Nat
  cM : Nat
def PkA.none_ : PkA := ⟨none, 0, 0, none, 0, 0, [], none, 0, 0, none, 0, 0, none, 0, 0⟩
structure PkRd (w : World) (p : Pk) (a : PkA) : Prop where
  hn : HdNum p.h
  hc : a.nH ≤ a.cH ∧ a.cH ≤ maxLen
  hr : Rd w a.AH a.nH p.h.o
  sr : SegRd w p.s a.AO a.nO a.cO a.os a.AD a.nD a.cD
  un : DgNum p.u
  uc : a.nU ≤ a.cU ∧ a.cU ≤ maxLen
  ur : Rd w a.AU a.nU p.u.d
  mn : MsgNum p.m
  mc : a.nM ≤ a.cM ∧ a.cM ≤ maxLen
  mr : Rd w a.AM a.nM p.m.d
theorem PkRd.below {w w' : World} {p : Pk} {a : PkA} (h : PkRd w p a) (hb : Below w.heap.size w w') : PkRd w' p a :=
  ⟨h.hn, h.hc, h.hr.below hb, h.sr.below hb, h.un, h.uc, h.ur.below hb, h.mn, h.mc, h.mr.below hb⟩
theorem cells24 {w : World} {g : Nat} {v0 v1 v2 v3 v4 v5 v6 v7 v8 v9 v10 v11 v12 v13 v14 v15 v16 v17 v18 v19 v20 v21 v22 v23 : Value} {t : TypeId} (h : w.heap[g]? = some (.cells #[v0, v1, v2, v3, v4, v5, v6, v7, v8, v9, v10, v11, v12, v13, v14, v15, v16, v17, v18, v19, v20, v21, v22, v23] t (0, 0))) : w.cell? ⟨g, 0, none⟩ = some v0 ∧ w.cell? ⟨g, 1, none⟩ = some v1 ∧ w.cell? ⟨g, 2, none⟩ = some v2 ∧ w.cell? ⟨g, 3, none⟩ = some v3 ∧ w.cell? ⟨g, 4, none⟩ = some v4 ∧ w.cell? ⟨g, 5, none⟩ = some v5 ∧ w.cell? ⟨g, 6, none⟩ = some v6 ∧ w.cell? ⟨g, 7, none⟩ = some v7 ∧ w.cell? ⟨g, 8, none⟩ = some v8 ∧ w.cell? ⟨g, 9, none⟩ = some v9 ∧ w.cell? ⟨g, 10, none⟩ = some v10 ∧ w.cell? ⟨g, 11, none⟩ = some v11 ∧ w.cell? ⟨g, 12, none⟩ = some v12 ∧ w.cell? ⟨g, 13, none⟩ = some v13 ∧ w.cell? ⟨g, 14, none⟩ = some v14 ∧ w.cell? ⟨g, 15, none⟩ = some v15 ∧ w.cell? ⟨g, 16, none⟩ = some v16 ∧ w.cell? ⟨g, 17, none⟩ = some v17 ∧ w.cell? ⟨g, 18, none⟩ = some v18 ∧ w.cell? ⟨g, 19, none⟩ = some v19 ∧ w.cell? ⟨g, 20, none⟩ = some v20 ∧ w.cell? ⟨g, 21, none⟩ = some v21 ∧ w.cell? ⟨g, 22, none⟩ = some v22 ∧ w.cell? ⟨g, 23, none⟩ = some v23 := by
  refine ⟨?_, ?_, ?_, ?_, ?_, ?_, ?_, ?_, ?_, ?_, ?_, ?_, ?_, ?_, ?_, ?_, ?_, ?_, ?_, ?_, ?_, ?_, ?_, ?_⟩ <;> (rw [blk_cell h]; rfl)
end Go.Proofs.YtheknmihnkennaaGreat

/-
  'make([]byte, m)': a row of noughts of the call's own. No function of the program.
-/
namespace Go.Proofs.YtheknmihnkennaaGreat
set_option maxRecDepth 10000
open Go.RowKit
end Go.Proofs.YtheknmihnkennaaGreat

/-
  Options' bytes, plainly: what is laid is read again, and what is read may be laid. No function of the program.
-/
namespace Go.Proofs.YtheknmihnkennaaGreat
set_option maxRecDepth 10000
open Go.RowKit

theorem badB_false {l : Int × List Int} (h : badB l = false) : 2 ≤ l.1 ∧ l.2.length ≤ 38 := by
  unfold badB at h
  simp at h
  omega
theorem behindO_ok (a b : List (Int × List Int)) : behindO a (b, 0) = (a ++ b, 0) := by simp [behindO]
/-- What stands behind options that are laid is read behind them. -/
theorem parseL_bytes (r : List Int) : ∀ (ls : List (Int × List Int)), (∀ l ∈ ls, 2 ≤ l.1) → parseL (bytesO ls ++ r) = behindO ls (parseL r)
  | [], _ => by
    simp only [bytesO, List.flatMap_nil, List.nil_append]
    exact (behindO_nil (parseL r) (parseF_err _ _)).symm
  | l :: ls, h => by
    have h2 := h l (by simp)
    have ih := parseL_bytes r ls (fun x hx => h x (by simp [hx]))
    have e : bytesO (l :: ls) ++ r = l.1 :: (2 + (l.2.length : Int)) :: (l.2 ++ (bytesO ls ++ r)) := by simp [bytesO, bytesOne]
    rw [e, parseL_opt _ _ _ (by omega) (by omega), if_neg (by omega), if_neg (by simp; omega)]
    have e2 : (2 + (l.2.length : Int) - 2).toNat = l.2.length := by omega
    rw [e2, List.take_left, List.drop_left, ih, behindO_app]
    rfl
theorem parseL_zeros (k : Nat) : parseL (List.replicate k 0) = ([], 0) := by
  cases k with
  | zero => rfl
  | succ k => rw [List.replicate_succ, parseL_zero, if_pos (by simp)]
theorem padTo4_len (b : List Int) : (padTo4 b).length % 4 = 0 ∧ b.length ≤ (padTo4 b).length ∧ (padTo4 b).length ≤ b.length + 3 := by
  unfold padTo4
  simp
  omega
/-- What Put tells is read as the options. -/
theorem parseO_put {ls : List (Int × List Int)} (h : ls.any badB = false) (hl : (bytesO ls).length ≤ 40) : parseO (padTo4 (bytesO ls)) = (ls, 0) := by
  have hp := padTo4_len (bytesO ls)
  unfold parseO
  rw [if_neg (by omega)]
  have hk : ∀ l ∈ ls, 2 ≤ l.1 := fun l hl' => (badB_false (by rw [List.any_eq_false] at h; simpa using h l hl')).1
  unfold padTo4
  rw [parseL_bytes _ ls hk, parseL_zeros, behindO_ok, List.append_nil]

/-- What is read may be laid, in no more bytes. -/
theorem parseF_fits : ∀ (f : Nat) (b : List Int), (∀ x ∈ b, 0 ≤ x ∧ x < 256) → b.length ≤ 40 → (parseF f b).1.any badB = false ∧ (bytesO (parseF f b).1).length ≤ b.length
  | 0, b, _, _ => ⟨rfl, by simp [parseF, bytesO]⟩
  | f + 1, [], _, _ => ⟨rfl, by simp [parseF, bytesO]⟩
  | f + 1, k :: r, hb, hl => by
    have hr : ∀ x ∈ r, 0 ≤ x ∧ x < 256 := fun x hx => hb x (by simp [hx])
    have hk := hb k (by simp)
    have hl' : r.length ≤ 39 := by simpa using hl
    unfold parseF
    split
    · split <;> exact ⟨rfl, by simp [bytesO]⟩
    · rename_i h0
      split
      · have ih := parseF_fits f r hr (by omega)
        exact ⟨ih.1, by have := ih.2; simp only [List.length_cons]; omega⟩
      · rename_i h1
        match r, hr, hl' with
        | [], _, _ => exact ⟨rfl, by simp [bytesO]⟩
        | n :: r', hr, hl' =>
          simp only
          split
          · exact ⟨rfl, by simp [bytesO]⟩
          · split
            · exact ⟨rfl, by simp [bytesO]⟩
            · rename_i h2 h3
              have hd : (r'.drop (n - 2).toNat).length = r'.length - (n - 2).toNat := List.length_drop
              have ht : (r'.take (n - 2).toNat).length = (n - 2).toNat := by rw [List.length_take]; omega
              have hl2 : r'.length ≤ 38 := by simpa using hl'
              have ih := parseF_fits f (r'.drop (n - 2).toNat) (fun x hx => hr x (by simp [List.mem_of_mem_drop hx])) (by omega)
              split
              · refine ⟨?_, ?_⟩
                · rw [List.any_cons, ih.1, Bool.or_false]
                  unfold badB
                  simp only [ht, Bool.or_eq_false_iff, decide_eq_false_iff_not]
                  omega
                · have e : (bytesO ((k, r'.take (n - 2).toNat) :: (parseF f (r'.drop (n - 2).toNat)).1)).length = 2 + (n - 2).toNat + (bytesO (parseF f (r'.drop (n - 2).toNat)).1).length := by
                    simp only [bytesO, List.flatMap_cons, bytesOne, List.length_append, ht, List.length_cons, List.length_nil]
                  rw [e]
                  have := ih.2
                  simp only [List.length_cons]
                  omega
              · exact ⟨rfl, by simp [bytesO]⟩
theorem Reads.byte {w : World} : ∀ {os : List OptV} {ls : List (Int × List Int)}, Reads w os ls → ∀ l ∈ ls, (0 ≤ l.1 ∧ l.1 < 256) ∧ ∀ x ∈ l.2, 0 ≤ x ∧ x < 256
  | [], [], _, l, hl => by simp at hl
  | o :: os, l' :: ls, h, l, hl => by
    rcases List.mem_cons.1 hl with rfl | hl
    · obtain ⟨h1, h2, _, _, h5⟩ := h.1
      exact ⟨by rw [← h1]; exact h2, h5.byte⟩
    · exact Reads.byte h.2 l hl
theorem bytesO_bytes {ls : List (Int × List Int)} (h : ∀ l ∈ ls, (0 ≤ l.1 ∧ l.1 < 256) ∧ ∀ x ∈ l.2, 0 ≤ x ∧ x < 256) (h2 : ∀ l ∈ ls, l.2.length ≤ 38) : ∀ x ∈ bytesO ls, 0 ≤ x ∧ x < 256 := by
  intro x hx
  obtain ⟨l, hl, hx⟩ := List.mem_flatMap.1 hx
  have h3 := h l hl
  have h4 := h2 l hl
  simp only [bytesOne, List.mem_append, List.mem_cons, List.not_mem_nil, or_false] at hx
  rcases hx with (rfl | rfl) | hx
  · exact h3.1
  · omega
  · exact h3.2 x hx
end Go.Proofs.YtheknmihnkennaaGreat
