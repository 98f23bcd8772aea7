/-
  What the laws of opts have in common: lists of options that are read, few, Put's answer by name.
-/
import Derived.Test.YtikfklbgncdbnaaOptWakes
import Derived.Test.YtikfklbgncdbnaaSumOpen
namespace Go.Proofs.Ytikfklbgncdbnaa
set_option maxRecDepth 10000
open Go.RowKit
def LO (w : World) (A : Option Addr) (n : Nat) (os : List OptV) (ls : List (Int × List Int)) : Prop := RdO w A n os ∧ Reads w os ls
theorem LO.mk {w : World} {A : Option Addr} {n : Nat} {os : List OptV} {ls : List (Int × List Int)} (h : RdO w A n os) (k : Reads w os ls) : LO w A n os ls := ⟨h, k⟩
theorem LO.on {w w' : World} {A : Option Addr} {n : Nat} {os : List OptV} {ls : List (Int × List Int)} (h : LO w A n os ls) (hb : Below w.heap.size w w') : LO w' A n os ls := ⟨h.1.below hb, h.2.below hb⟩
theorem fewL_len (ls : List (Int × List Int)) : (fewL ls).length = min ls.length 20 := by simp [fewL, Nat.min_comm]
theorem fewL_lim (ls : List (Int × List Int)) : ∀ l ∈ fewL ls, l.2.length ≤ 1000000 := by
  intro l hl
  obtain ⟨l', _, rfl⟩ := List.mem_map.1 hl
  simp only [List.length_take]
  omega
theorem fewL_few (ls : List (Int × List Int)) : fewL (fewL ls) = fewL ls := by
  unfold fewL
  rw [← List.map_take, List.take_take, List.map_map]
  simp [Function.comp_def, List.take_take]
/-- Both Puts tell the same. -/
def SamePut (w w' : World) (b : List Int) (x : Int) (e : Ending) : Prop := ∃ A c, e = .returned (.tuple #[.slice A b.length c, .int .i64 x]) ∧ (∀ y ∈ b, 0 ≤ y ∧ y < 256) ∧ Rd w' A b.length b ∧ Below w.heap.size w w'
def putX (ls : List (Int × List Int)) : List Int × Int := if ls.any badB = true then ([], 1) else if 40 < (bytesO ls).length then ([], 3) else (padTo4 (bytesO ls), 0)
theorem padTo4_bytes {b : List Int} (h : ∀ x ∈ b, 0 ≤ x ∧ x < 256) : ∀ x ∈ padTo4 b, 0 ≤ x ∧ x < 256 := bytes_app_ h (fun x hx => by rw [List.eq_of_mem_replicate hx]; omega)
theorem samePut {ls : List (Int × List Int)} {w w' : World} {e : Ending} (hl : ∀ l ∈ ls, (0 ≤ l.1 ∧ l.1 < 256) ∧ ∀ x ∈ l.2, 0 ≤ x ∧ x < 256) (h : PutO ls w e w') : SamePut w w' (putX ls).1 (putX ls).2 e := by
  unfold PutO at h
  unfold putX
  by_cases h1 : ls.any badB = true
  · rw [if_pos h1] at h ⊢
    exact ⟨none, 0, h.1, by simp, Rd.nil _ _, h.2⟩
  · rw [if_neg h1] at h ⊢
    by_cases h2 : 40 < (bytesO ls).length
    · rw [if_pos h2] at h ⊢
      exact ⟨none, 0, h.1, by simp, Rd.nil _ _, h.2⟩
    · rw [if_neg h2] at h ⊢
      obtain ⟨A, c, he, ho, hb⟩ := h
      have hy := padTo4_bytes (bytesO_bytes hl (fun l hm => (badB_false (by rw [Bool.not_eq_true, List.any_eq_false] at h1; simpa using h1 l hm)).2))
      exact ⟨A, c, he, hy, ho.rd hy, hb⟩


/-- Put's answer where it must be good. -/
def PutGot (b : List Int) (m : Nat) (w : World) (e : Ending) (w' : World) : Prop := ∃ A c, e = .returned (.tuple #[.slice A m c, .int .i64 0]) ∧ Rd w' A m b ∧ Below w.heap.size w w'
theorem put_got (A : Option Addr) (n c m : Nat) (os : List OptV) (ls : List (Int × List Int)) (b : List Int) (w : World) (hn : n ≤ 1000000) (h : LO w A n os ls) (hany : ls.any badB = false) (h2 : (bytesO ls).length ≤ 40) (hb : padTo4 (bytesO ls) = b) (hm : b.length = m) :
    Calls Try.prog 16 #[.slice A n c] w (PutGot b m w) := (put_any A n c os ls w hn h.1 h.2).mono fun e w' hp => by
  have hl := h.2.byte
  unfold PutO at hp; rw [if_neg (by rw [hany]; simp), if_neg (by omega), hb, hm] at hp
  obtain ⟨A, c, he, ho, hbl⟩ := hp
  refine ⟨A, c, he, ho.rd ?_, hbl⟩
  rw [← hb]
  exact padTo4_bytes (bytesO_bytes hl (fun l hm => (badB_false (by rw [List.any_eq_false] at hany; simpa using hany l hm)).2))
def PutErr (x : Int) (w : World) (e : Ending) (w' : World) : Prop := e = .returned (.tuple #[.slice none 0 0, .int .i64 x]) ∧ Below w.heap.size w w'
theorem put_arg (A : Option Addr) (n c : Nat) (os : List OptV) (ls : List (Int × List Int)) (w : World) (hn : n ≤ 1000000) (h0 : LO w A n os ls) (h : ls.any badB = true) :
    Calls Try.prog 16 #[.slice A n c] w (PutErr 1 w) := (put_any A n c os ls w hn h0.1 h0.2).mono fun e w' hp => by
  unfold PutO at hp; rw [if_pos h] at hp; exact hp
theorem put_long (A : Option Addr) (n c : Nat) (os : List OptV) (ls : List (Int × List Int)) (w : World) (hn : n ≤ 1000000) (h0 : LO w A n os ls) (h : ls.any badB = false) (h2 : 40 < (bytesO ls).length) :
    Calls Try.prog 16 #[.slice A n c] w (PutErr 3 w) := (put_any A n c os ls w hn h0.1 h0.2).mono fun e w' hp => by
  unfold PutO at hp; rw [if_neg (by rw [h]; simp), if_pos h2] at hp; exact hp
/-- Parse's answer by name. -/
def ParseGot (ls : List (Int × List Int)) (x : Int) (w : World) (e : Ending) (w' : World) : Prop := ∃ A m c os, m = ls.length ∧ m ≤ 1000000 ∧ e = .returned (.tuple #[.slice A m c, .int .i64 x]) ∧ LO w' A m os ls ∧ Below w.heap.size w w'
theorem parse_len {b : List Int} (hb : ∀ x ∈ b, 0 ≤ x ∧ x < 256) : (parseO b).1.length ≤ 20 := by
  have h := (parseO_fits hb).2
  have : ∀ ls : List (Int × List Int), ls.length * 2 ≤ (bytesO ls).length := by
    intro ls
    induction ls with
    | nil => simp [bytesO]
    | cons l ls ih => simp only [bytesO, List.flatMap_cons, List.length_append, List.length_cons, bytesOne] at ih ⊢; simp at ih ⊢; omega
  have := this (parseO b).1
  omega
theorem parse_got (A : Option Addr) (n c : Nat) (b : List Int) (ls : List (Int × List Int)) (x : Int) (w : World) (hp : parseO b = (ls, x)) (hn : n ≤ 140737488355328) (hr : Rd w A n b) :
    Calls Try.prog 10 #[.slice A n c] w (ParseGot ls x w) := (parse_to A n c b ls x w hp hn hr).mono fun e w' ⟨A1, m, c1, os, hm, he, ho, hl, hb⟩ => by
  have := parse_len hr.byte
  rw [hp] at this
  exact ⟨A1, m, c1, os, hm, by simp only at this; omega, he, ⟨ho.rd, hl.reads⟩, hb⟩
end Go.Proofs.Ytikfklbgncdbnaa
