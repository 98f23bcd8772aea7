/-
  Texts laid together: OptFind, TcpLay, Part, OptParse.
-/
import Derived.Test.YtkooehejdfaekaaGreatZP05
import Derived.Test.YtkooehejdfaekaaGreatZP02
import Derived.Test.YtkooehejdfaekaaGreatZP03
import Derived.IntWalk
import Derived.Deep.RegionHeld3

/-
  The contracts of what the document itself finds among options (culvertref05's Mss, Scale, SackOk).
-/
namespace Go.Proofs.YtkooehejdfaekaaGreat
set_option maxRecDepth 10000
open Go.RowKit

end Go.Proofs.YtkooehejdfaekaaGreat

/-
  The contracts of culvertref06's lay (two or four bytes), num, whole.
-/
namespace Go.Proofs.YtkooehejdfaekaaGreat
set_option maxRecDepth 10000
open Go.RowKit

/-- One byte's address in a row of the call's own. -/
theorem own_index {w : World} {B g n c : Nat} {l : List Int} (h : OwnB w B (some ⟨g, 0, none⟩) n c l) (j : Nat) (ji : Int) (hj : j < n) (he : ji = (j : Int)) :
    (∀ W : World, (Instr.indexAt 24 (.slice (some ⟨g, 0, none⟩) n c) (.int .i64 ji)).run Tryz.prog W = .ok (.pointer (some ⟨g, j, none⟩)) W) ∧ w.cell? ⟨g, j, none⟩ = some (.int .u8 (l.getD j 0)) ∧ w.frozen? ⟨g, j, none⟩ = false := by
  subst he
  have h0 : (0 : Int) ≤ (j : Int) := by omega
  have h1 : (j : Int) < (n : Int) := by omega
  have h' : w.ownsRow B 5 1 (.slice (some ⟨g, 0, none⟩) n c) n (l.map (Value.int .u8)) := h
  exact ⟨fun W => by go_simp, h.cell j hj, World.ownsRow.frozenAt h' j⟩

/-- A number's bytes are laid over a row's, the lowest one first: j of s of them. -/
def setsL (l : List Int) (at_ s : Nat) (n : Int) : Nat → List Int
  | 0 => l
  | j + 1 => (setsL l at_ s n j).set (at_ + (s - 1 - j)) (n / 256 ^ j % 256)
def LaidIs (B g m c : Nat) (l : List Int) (w : World) (e : Ending) (w' : World) : Prop := e = .returned (.tuple #[]) ∧ OwnB w' B (some ⟨g, 0, none⟩) m c l ∧ But (fun k => k = g) w w'
theorem lay_any (B g m c at_ s : Nat) (ai si : Int) (l : List Int) (n : Int) (w : World) (hs : s ≤ 4) (ha : at_ + s ≤ m) (hm : m ≤ 100000) (eai : ai = (at_ : Int)) (esi : si = (s : Int)) (hn : 0 ≤ n ∧ n < 4294967296) (h : OwnB w B (some ⟨g, 0, none⟩) m c l) :
    Calls Tryz.prog 50 #[.slice (some ⟨g, 0, none⟩) m c, .int .i64 ai, .int .i64 si, .int .u32 n] w (LaidIs B g m c (setsL l at_ s n s) w) := by
  subst eai; subst esi
  have Ho := Lib.hid h
  have hw1 : IntKind.i64.wrap ((s : Int) - 1) = (s : Int) - 1 := IntWalk.i64_in _ (by omega)
  clear h
  go_enter Tryz.func50, Tryz.ntmps50
  go_wp2_with fail
  go_loopg [3, 8] s (fun gk x i wr => ∃ (j : Nat) (y : Int), Hid (gk + j = s) ∧ j ≤ s ∧ y = n / 256 ^ j ∧ (0 ≤ y ∧ y < 4294967296) ∧ x = .int .u32 y ∧ i = .int .i64 ((s : Int) - 1 - (j : Int)) ∧ Hid (OwnB wr B (some ⟨g, 0, none⟩) m c (setsL l at_ s n j)) ∧ Hid (But (fun k => k = g) w wr))
  case atStart => exact ⟨0, n, rfl, Nat.zero_le _, by simp, hn, rfl, by simp, Ho, Lib.hid (But.refl _ _)⟩
  case round =>
    obtain ⟨j, y, hgk, hj, hy, hyb, rfl, rfl, hown, hb⟩ := hrel
    by_cases hjs : j < s
    · have hge : 0 ≤ (s : Int) - 1 - (j : Int) := by omega
      have hw2 : IntKind.i64.wrap ((s : Int) - 1 - (j : Int) - 1) = (s : Int) - 1 - (j : Int) - 1 := IntWalk.i64_in _ (by omega)
      have hw3 : IntKind.i64.wrap ((at_ : Int) + ((s : Int) - 1 - (j : Int))) = (at_ : Int) + ((s : Int) - 1 - (j : Int)) := IntWalk.i64_in _ (by omega)
      obtain ⟨hix, hc, hf⟩ := own_index hown.out (at_ + (s - 1 - j)) ((at_ : Int) + ((s : Int) - 1 - (j : Int))) (by omega) (by omega)
      have Hset := Lib.hid (hown.out.set_ (at_ + (s - 1 - j)) (y % 256))
      have Hb2 := Lib.hid (hb.out.setCell (p := ⟨g, at_ + (s - 1 - j), none⟩) rfl (.int .u8 (y % 256)))
      have Hy := Lib.hid hy
      have hyq : 0 ≤ y / 256 ∧ y / 256 < 4294967296 := by omega
      clear hown hb hy
      go_wp2_with fail
      go_roundg (gk - 1)
      case measure => have := hgk.out; omega
      case rel => exact ⟨j + 1, y / 256, by have := hgk.out; show gk - 1 + (j + 1) = _; omega, by omega, by rw [Hy.out, Int.pow_succ, Int.ediv_ediv_of_nonneg (Int.le_of_lt (Int.pow_pos (by decide)))], hyq, rfl, by rw [show ((s : Int) - 1 - ((j + 1 : Nat) : Int)) = (s : Int) - 1 - (j : Int) - 1 by omega], Lib.hid (by show OwnB _ _ _ _ _ ((setsL l at_ s n j).set _ _); rw [← Hy.out]; exact Hset.out), Hb2⟩
    · obtain rfl : s = j := by omega
      have hlt : (s : Int) - 1 - (s : Int) < 0 := by omega
      go_wp2_with fail
      go_end0
      exact ⟨rfl, hown.out, hb.out⟩

/-- A number of bytes, the highest one first. -/
def numL (l : List Int) : Int := l.foldl (fun a x => 256 * a + x) 0
theorem numL_bd : ∀ (l : List Int), (∀ x ∈ l, 0 ≤ x ∧ x < 256) → l.length ≤ 4 → 0 ≤ numL l ∧ numL l < 256 ^ l.length
  | [], _, _ => by simp [numL]
  | [a], h, _ => by have h0 := h a (by simp); simp [numL]; omega
  | [a, b], h, _ => by have h0 := h a (by simp); have h1 := h b (by simp); simp [numL]; omega
  | [a, b, c], h, _ => by have h0 := h a (by simp); have h1 := h b (by simp); have h2 := h c (by simp); simp [numL]; omega
  | [a, b, c, d], h, _ => by have h0 := h a (by simp); have h1 := h b (by simp); have h2 := h c (by simp); have h3 := h d (by simp); simp [numL]; omega
  | _ :: _ :: _ :: _ :: _ :: _, _, h => by simp at h
/-- The pseudo header and bytes. -/
theorem whole_any (src dst : Int) (A : Option Addr) (n c : Nat) (l : List Int) (w : World) (hn : n ≤ 100000) (h : Rd w A n l) :
    Calls Tryz.prog 52 #[.int .u32 src, .int .u32 dst, .slice A n c] w (RowIs (12 + n) (pseudoL src dst 6 n ++ l) w) := by
  have Hp := Lib.hid (rpseudo_any src dst 6 (n : Int) w (by omega))
  have Hr := Lib.hid h
  clear h
  go_enter Tryz.func52, Tryz.ntmps52
  go_wp2_with fail
  refine Hp.out.mono ?_
  rintro e w1 ⟨A1, c1, rfl, h1, h2, hown, hb⟩
  have Hown := Lib.hid hown
  have Hb := Lib.hid hb
  have Hr1 := Lib.hid (Hr.out.below hb)
  clear hown hb
  go_wp2_with (refine wpList_app rfl (.tmp 11) (.tmp 12) rfl w.heap.size A1 A 12 c1 n c _ l rfl rfl Hown.out Hr1.out (by omega) Hb.out.size ?_; intro A2 c2 w2 hown2 _ hb2 _)
  go_ret
  exact ⟨A2, c2, rfl, hown2.cap, hown2.capMax, hown2, Hb.out.trans hb2⟩
end Go.Proofs.YtkooehejdfaekaaGreat

/-
  A part of a slice of bytes, s[lo:hi], as one run equation: wherever it begins. No function of the program.
-/
namespace Go.Proofs.YtkooehejdfaekaaGreat
set_option maxRecDepth 10000
open Go.RowKit
theorem Rd.part {w : World} {A : Option Addr} {n c : Nat} {l : List Int} (h : Rd w A n l) (lo hi : Nat) (loi hii : Int) (h0 : 0 < n) (hlo : lo ≤ hi) (hhi : hi ≤ n) (hc : n ≤ c) (hcm : c ≤ maxLen) (el : loi = (lo : Int)) (eh : hii = (hi : Int)) :
    ∃ A', (∀ W : World, (Instr.sliceAt 24 (.slice A n c) (some (.int .i64 loi)) (some (.int .i64 hii)) none).run Tryz.prog W = .ok (.slice A' (hi - lo) (c - lo)) W) ∧ Rd w A' (hi - lo) ((l.take hi).drop lo) := by
  subst el eh
  obtain ⟨b, o, rfl, _, _⟩ := h.at_ h0
  unfold maxLen at hcm
  have i0 : (0 : Int) ≤ (lo : Int) := by omega
  have i1 : (lo : Int) ≤ (hi : Int) := by omega
  have i2 : (hi : Int) ≤ (c : Int) := by omega
  have i3 : lo ≤ c := by omega
  by_cases hl : lo = c
  · subst hl
    obtain rfl : hi = lo := by omega
    refine ⟨some ⟨b, o, none⟩, fun W => by go_simp, ?_⟩
    rw [Nat.sub_self, List.drop_take]
    simp
    exact Rd.nil _ _
  · have i4 : ¬ c = lo := fun e => hl e.symm
    refine ⟨some ⟨b, o + lo, none⟩, fun W => by go_simp, ?_⟩
    exact (h.take hhi).drop_ rfl (by omega)
end Go.Proofs.YtkooehejdfaekaaGreat

/-
  The contract of the document's own Parse for options (culvertref05), and of culvertref03's Own.
-/
namespace Go.Proofs.YtkooehejdfaekaaGreat
set_option maxRecDepth 10000
open Go.RowKit

/-- Options' bytes, read: the options and the error. -/
def parseF : Nat → List Int → List (Int × List Int) × Int
  | 0, _ => ([], 0)
  | _ + 1, [] => ([], 0)
  | f + 1, k :: r =>
    if k = 0 then (if r.all (fun x => x == 0) = true then ([], 0) else ([], 5))
    else if k = 1 then parseF f r
    else match r with
      | [] => ([], 4)
      | n :: r' => if n < 2 then ([], 5) else if (r'.length : Int) + 2 < n then ([], 4) else
        if (parseF f (r'.drop (n - 2).toNat)).2 = 0 then ((k, r'.take (n - 2).toNat) :: (parseF f (r'.drop (n - 2).toNat)).1, 0) else ([], (parseF f (r'.drop (n - 2).toNat)).2)
def parseL (b : List Int) : List (Int × List Int) × Int := parseF b.length b
theorem parseF_stable : ∀ (f g : Nat) (b : List Int), b.length ≤ f → b.length ≤ g → parseF f b = parseF g b
  | 0, 0, _, _, _ => rfl
  | 0, _ + 1, [], _, _ => rfl
  | _ + 1, 0, [], _, _ => rfl
  | _ + 1, _ + 1, [], _, _ => rfl
  | f + 1, g + 1, k :: r, hf, hg => by
    have hf' : r.length ≤ f := by simpa using hf
    have hg' : r.length ≤ g := by simpa using hg
    unfold parseF
    split
    · rfl
    · split
      · exact parseF_stable f g r hf' hg'
      · match r, hf', hg' with
        | [], _, _ => rfl
        | n :: r', hf', hg' =>
          have e := parseF_stable f g (r'.drop (n - 2).toNat) (by simp at hf' ⊢; omega) (by simp at hg' ⊢; omega)
          simp only [e]
theorem parseL_nil : parseL [] = ([], 0) := rfl
theorem parseL_zero (r : List Int) : parseL (0 :: r) = (if r.all (fun x => x == 0) = true then ([], 0) else ([], 5)) := by
  show parseF (r.length + 1) (0 :: r) = _
  unfold parseF
  rw [if_pos rfl]
theorem parseL_one (r : List Int) : parseL (1 :: r) = parseL r := by
  show parseF (r.length + 1) (1 :: r) = _
  unfold parseF
  rw [if_neg (by decide), if_pos rfl]
  rfl
theorem parseL_end (k : Int) (h0 : k ≠ 0) (h1 : k ≠ 1) : parseL [k] = ([], 4) := by
  show parseF 1 [k] = _
  unfold parseF
  rw [if_neg h0, if_neg h1]
/-- What is told of the rest, behind what was read. -/
def behindO (acc : List (Int × List Int)) (p : List (Int × List Int) × Int) : List (Int × List Int) × Int := if p.2 = 0 then (acc ++ p.1, 0) else ([], p.2)
theorem parseL_opt (k n : Int) (r : List Int) (h0 : k ≠ 0) (h1 : k ≠ 1) :
    parseL (k :: n :: r) = if n < 2 then ([], 5) else if (r.length : Int) + 2 < n then ([], 4) else behindO [(k, r.take (n - 2).toNat)] (parseL (r.drop (n - 2).toNat)) := by
  show parseF (r.length + 2) (k :: n :: r) = _
  unfold parseF
  rw [if_neg h0, if_neg h1]
  have e := parseF_stable (r.length + 1) (r.drop (n - 2).toNat).length (r.drop (n - 2).toNat) (by simp; omega) (Nat.le_refl _)
  simp only [e]
  rfl
theorem behindO_app (a b : List (Int × List Int)) (p : List (Int × List Int) × Int) : behindO a (behindO b p) = behindO (a ++ b) p := by
  unfold behindO
  by_cases h : p.2 = 0 <;> simp [h]
theorem behindO_nil (p : List (Int × List Int) × Int) (h : p.2 ≠ 0 → p.1 = []) : behindO [] p = p := by
  unfold behindO
  by_cases h0 : p.2 = 0
  · rw [if_pos h0]; ext <;> simp [h0]
  · rw [if_neg h0]; ext <;> simp [h h0]
theorem parseF_err : ∀ (f : Nat) (b : List Int), (parseF f b).2 ≠ 0 → (parseF f b).1 = []
  | 0, _, h => rfl
  | _ + 1, [], h => rfl
  | f + 1, k :: r, h => by
    unfold parseF at h ⊢
    split
    · split <;> rfl
    · rename_i h0
      rw [if_neg h0] at h
      split
      · rename_i h1
        rw [if_pos h1] at h
        exact parseF_err f r h
      · rename_i h1
        rw [if_neg h1] at h
        match r with
        | [] => rfl
        | n :: r' =>
          simp only at h ⊢
          split
          · rfl
          · rename_i h2
            rw [if_neg h2] at h
            split
            · rfl
            · rename_i h3
              rw [if_neg h3] at h
              split
              · rename_i h4
                rw [if_pos h4] at h
                exact absurd rfl h
              · rfl
/-- What Parse tells of bytes. -/
def parseO (b : List Int) : List (Int × List Int) × Int := if 40 < b.length then ([], 3) else parseL b
def ParseO (b : List Int) (w : World) (e : Ending) (w' : World) : Prop :=
  ∃ A m c os, e = .returned (.tuple #[.slice A m c, .int .i64 (parseO b).2]) ∧ OwnO w' w.heap.size A m c os ∧ Reads w' os (parseO b).1 ∧ Below w.heap.size w w'

/-- The options' bytes lie in rows of block B and on. -/
def FreshO (B : Nat) (os : List OptV) : Prop := ∀ o ∈ os, ∀ b off, o.A = some ⟨b, off, none⟩ → 0 < o.n → B ≤ b
theorem FreshO.snoc {B : Nat} {os : List OptV} {v : OptV} (h : FreshO B os) (hv : 0 < v.n → ∀ b off, v.A = some ⟨b, off, none⟩ → B ≤ b) : FreshO B (os ++ [v]) := by
  intro o ho b off e h0
  rcases List.mem_append.1 ho with h1 | h1
  · exact h o h1 b off e h0
  · obtain rfl : o = v := by simpa using h1
    exact hv h0 b off e
theorem drop_cons_ (b : List Int) (j : Nat) (h : j < b.length) : b.drop j = b.getD j 0 :: b.drop (j + 1) := by rw [List.drop_eq_getElem_cons h]; simp [List.getD, List.getElem?_eq_getElem h]
end Go.Proofs.YtkooehejdfaekaaGreat
