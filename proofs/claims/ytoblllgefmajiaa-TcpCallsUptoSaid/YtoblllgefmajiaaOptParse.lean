/-
  The contract of the document's own Parse for options (culvertref05), and of culvertref03's Own.
-/
import Derived.Test.YtoblllgefmajiaaOptFind
import Derived.Deep.RegionHeld3
import Derived.IntWalk
import Derived.Test.YtoblllgefmajiaaPart
namespace Go.Proofs.Ytoblllgefmajiaa
set_option maxRecDepth 10000
open Go.RowKit

theorem own_any (A : Option Addr) (n c : Nat) (l : List Int) (w : World) (hn : n ≤ 140737488355328) (h : Rd w A n l) :
    Calls Try.prog 80 #[.slice A n c] w (RowIs n l w) := by
  have Ho := Lib.hid (OwnB.nil w w.heap.size)
  have Hr := Lib.hid h
  clear h
  go_enter Try.func80, Try.ntmps80
  go_wp2_with (refine wpList_app rfl (.tmp 4) (.tmp 5) rfl w.heap.size none A 0 0 n c [] l rfl rfl Ho.out Hr.out (by omega) (Nat.le_refl _) ?_; intro A2 c2 w2 hown2 _ hb2 _)
  go_ret
  have h2 := hown2
  rw [Nat.zero_add, List.nil_append] at h2
  exact ⟨A2, c2, by simp, h2.cap, h2.capMax, h2, hb2⟩

/-- Options' bytes, read: the options and the error. -/
def parseF : Nat → List Int → List (Int × List Int) × Int
  | 0, _ => ([], 0)
  | _ + 1, [] => ([], 0)
  | f + 1, k :: r =>
    if k = 0 then (if r.all (fun x => x == 0) = true then ([], 0) else ([], 5))
    else if k = 1 then parseF f r
    else match r with
      | [] => ([], 4)
      | n :: r' => if n < 2 then ([], 5) else if (r'.length : Int) + 2 < n then ([], 4) else
        if (parseF f (r'.drop (n - 2).toNat)).2 = 0 then ((k, r'.take (n - 2).toNat) :: (parseF f (r'.drop (n - 2).toNat)).1, 0) else ([], (parseF f (r'.drop (n - 2).toNat)).2)
def parseL (b : List Int) : List (Int × List Int) × Int := parseF b.length b
theorem parseF_stable : ∀ (f g : Nat) (b : List Int), b.length ≤ f → b.length ≤ g → parseF f b = parseF g b
  | 0, 0, _, _, _ => rfl
  | 0, _ + 1, [], _, _ => rfl
  | _ + 1, 0, [], _, _ => rfl
  | _ + 1, _ + 1, [], _, _ => rfl
  | f + 1, g + 1, k :: r, hf, hg => by
    have hf' : r.length ≤ f := by simpa using hf
    have hg' : r.length ≤ g := by simpa using hg
    unfold parseF
    split
    · rfl
    · split
      · exact parseF_stable f g r hf' hg'
      · match r, hf', hg' with
        | [], _, _ => rfl
        | n :: r', hf', hg' =>
          have e := parseF_stable f g (r'.drop (n - 2).toNat) (by simp at hf' ⊢; omega) (by simp at hg' ⊢; omega)
          simp only [e]
theorem parseL_nil : parseL [] = ([], 0) := rfl
theorem parseL_zero (r : List Int) : parseL (0 :: r) = (if r.all (fun x => x == 0) = true then ([], 0) else ([], 5)) := by
  show parseF (r.length + 1) (0 :: r) = _
  unfold parseF
  rw [if_pos rfl]
theorem parseL_one (r : List Int) : parseL (1 :: r) = parseL r := by
  show parseF (r.length + 1) (1 :: r) = _
  unfold parseF
  rw [if_neg (by decide), if_pos rfl]
  rfl
theorem parseL_end (k : Int) (h0 : k ≠ 0) (h1 : k ≠ 1) : parseL [k] = ([], 4) := by
  show parseF 1 [k] = _
  unfold parseF
  rw [if_neg h0, if_neg h1]
/-- What is told of the rest, behind what was read. -/
def behindO (acc : List (Int × List Int)) (p : List (Int × List Int) × Int) : List (Int × List Int) × Int := if p.2 = 0 then (acc ++ p.1, 0) else ([], p.2)
theorem parseL_opt (k n : Int) (r : List Int) (h0 : k ≠ 0) (h1 : k ≠ 1) :
    parseL (k :: n :: r) = if n < 2 then ([], 5) else if (r.length : Int) + 2 < n then ([], 4) else behindO [(k, r.take (n - 2).toNat)] (parseL (r.drop (n - 2).toNat)) := by
  show parseF (r.length + 2) (k :: n :: r) = _
  unfold parseF
  rw [if_neg h0, if_neg h1]
  have e := parseF_stable (r.length + 1) (r.drop (n - 2).toNat).length (r.drop (n - 2).toNat) (by simp; omega) (Nat.le_refl _)
  simp only [e]
  rfl
theorem behindO_app (a b : List (Int × List Int)) (p : List (Int × List Int) × Int) : behindO a (behindO b p) = behindO (a ++ b) p := by
  unfold behindO
  by_cases h : p.2 = 0 <;> simp [h]
theorem behindO_nil (p : List (Int × List Int) × Int) (h : p.2 ≠ 0 → p.1 = []) : behindO [] p = p := by
  unfold behindO
  by_cases h0 : p.2 = 0
  · rw [if_pos h0]; ext <;> simp [h0]
  · rw [if_neg h0]; ext <;> simp [h h0]
theorem parseF_err : ∀ (f : Nat) (b : List Int), (parseF f b).2 ≠ 0 → (parseF f b).1 = []
  | 0, _, h => rfl
  | _ + 1, [], h => rfl
  | f + 1, k :: r, h => by
    unfold parseF at h ⊢
    split
    · split <;> rfl
    · rename_i h0
      rw [if_neg h0] at h
      split
      · rename_i h1
        rw [if_pos h1] at h
        exact parseF_err f r h
      · rename_i h1
        rw [if_neg h1] at h
        match r with
        | [] => rfl
        | n :: r' =>
          simp only at h ⊢
          split
          · rfl
          · rename_i h2
            rw [if_neg h2] at h
            split
            · rfl
            · rename_i h3
              rw [if_neg h3] at h
              split
              · rename_i h4
                rw [if_pos h4] at h
                exact absurd rfl h
              · rfl
/-- What Parse tells of bytes. -/
def parseO (b : List Int) : List (Int × List Int) × Int := if 40 < b.length then ([], 3) else parseL b
def ParseO (b : List Int) (w : World) (e : Ending) (w' : World) : Prop :=
  ∃ A m c os, e = .returned (.tuple #[.slice A m c, .int .i64 (parseO b).2]) ∧ OwnO w' w.heap.size A m c os ∧ Reads w' os (parseO b).1 ∧ Below w.heap.size w w'

/-- The options' bytes lie in rows of block B and on. -/
def FreshO (B : Nat) (os : List OptV) : Prop := ∀ o ∈ os, ∀ b off, o.A = some ⟨b, off, none⟩ → 0 < o.n → B ≤ b
theorem FreshO.snoc {B : Nat} {os : List OptV} {v : OptV} (h : FreshO B os) (hv : 0 < v.n → ∀ b off, v.A = some ⟨b, off, none⟩ → B ≤ b) : FreshO B (os ++ [v]) := by
  intro o ho b off e h0
  rcases List.mem_append.1 ho with h1 | h1
  · exact h o h1 b off e h0
  · obtain rfl : o = v := by simpa using h1
    exact hv h0 b off e
/-- What Parse tells, the options' bytes in rows that the call made. -/
def ParseF (b : List Int) (w : World) (e : Ending) (w' : World) : Prop :=
  ∃ A m c os, e = .returned (.tuple #[.slice A m c, .int .i64 (parseO b).2]) ∧ OwnO w' w.heap.size A m c os ∧ Reads w' os (parseO b).1 ∧ Below w.heap.size w w' ∧ FreshO w.heap.size os
theorem none_toldF {b : List Int} {x : Int} {w w' : World} (h : parseO b = ([], x)) (hb : Below w.heap.size w w') : ParseF b w (.returned (.tuple #[.slice none 0 0, .int .i64 x])) w' :=
  ⟨none, 0, 0, [], by rw [h], OwnO.nil _ _, by rw [h]; trivial, hb, fun o h => by simp at h⟩

theorem drop_cons_ (b : List Int) (j : Nat) (h : j < b.length) : b.drop j = b.getD j 0 :: b.drop (j + 1) := by rw [List.drop_eq_getElem_cons h]; simp [List.getD, List.getElem?_eq_getElem h]
theorem none_told {b : List Int} {x : Int} {w w' : World} (h : parseO b = ([], x)) (hb : Below w.heap.size w w') : ParseO b w (.returned (.tuple #[.slice none 0 0, .int .i64 x])) w' :=
  ⟨none, 0, 0, [], by rw [h], OwnO.nil _ _, by rw [h]; trivial, hb⟩

theorem rparse_own (A : Option Addr) (n c : Nat) (b : List Int) (w : World) (hc : n ≤ c ∧ c ≤ maxLen) (hr : Rd w A n b) :
    Calls Try.prog 65 #[.slice A n c] w (ParseF b w) := by
  have Hl := Lib.hid hr.len
  have Hr := Lib.hid hr
  by_cases h40 : 40 < n
  · have hi : 40 < (n : Int) := by have := hr.len; omega
    have Hp := Lib.hid (show parseO b = ([], 3) by unfold parseO; rw [if_pos (by rw [hr.len]; exact h40)])
    clear hr
    go_enter Try.func65, Try.ntmps65
    go_wp2_with fail
    go_ret2
    exact none_toldF Hp.out (Below.refl _ _)
  · have hi : (n : Int) ≤ 40 := by have := hr.len; omega
    have Hp := Lib.hid (show parseO b = parseL b by unfold parseO; rw [if_neg (by rw [hr.len]; exact h40)])
    clear hr
    go_enter Try.func65, Try.ntmps65
    go_wp2_with fail
    go_loopg [4, 5] n (fun gk l i wr => ∃ (j m2 : Nat) (A2 : Option Addr) (c2 : Nat) (os : List OptV) (acc : List (Int × List Int)), Hid (gk + j = n) ∧ j ≤ n ∧ m2 ≤ j ∧ i = .int .i64 (j : Int) ∧ l = .slice A2 m2 c2 ∧ Hid (OwnO wr w.heap.size A2 m2 c2 os) ∧ Hid (Reads wr os acc) ∧ Hid (parseL b = behindO acc (parseL (b.drop j))) ∧ FreshO w.heap.size os ∧ ApartO os A2 ∧ Below w.heap.size w wr)
    case atStart => exact ⟨0, 0, none, 0, [], [], rfl, Nat.zero_le _, Nat.le_refl _, rfl, rfl, Lib.hid (OwnO.nil _ _), Lib.hid trivial, Lib.hid (by rw [List.drop_zero]; exact (behindO_nil (parseL b) (parseF_err _ _)).symm), (fun o h => by simp at h), (fun o h => by simp at h), Below.refl _ _⟩
    case round =>
      obtain ⟨j, m2, A2, c2, os, acc, hgk, hj, hmj, rfl, rfl, hown, hrd, hpa, hfo, hap, hb⟩ := hrel
      by_cases hjn : j < n
      · obtain ⟨p1, i1, k0, l1, x1, y1⟩ := byte_at (c := c) Hr.out j (j : Int) hjn rfl
        have hd := drop_cons_ b j (by rw [Hl.out]; exact hjn)
        obtain ⟨x, ex⟩ : ∃ x, b.getD j 0 = x := ⟨_, rfl⟩
        rw [ex] at k0 x1 y1 hd
        have k1 := (hb.cell l1).trans k0
        have Hd := Lib.hid hd
        clear ex hd
        by_cases h0 : x = 0
        · subst h0
          go_wp2_with fail
          go_loopg [6] (n - j) (fun gk2 kk wr2 => ∃ t : Nat, Hid (gk2 + t = n) ∧ j ≤ t ∧ t ≤ n ∧ kk = .int .i64 (t : Int) ∧ Hid (((b.drop j).take (t - j)).all (fun x => x == 0) = true) ∧ wr2 = wr)
          case atStart => exact ⟨j, (show n - j + j = n by omega), Nat.le_refl _, hj, rfl, Lib.hid (by simp), rfl⟩
          case round =>
            obtain ⟨t, hgt, hjt, ht, rfl, hz, rfl⟩ := hrel
            by_cases htn : t < n
            · obtain ⟨p2, i2, k2, l2, x2, y2⟩ := byte_at (c := c) (Hr.out.below hb) t (t : Int) htn rfl
              obtain ⟨y, ey⟩ : ∃ y, b.getD t 0 = y := ⟨_, rfl⟩
              rw [ey] at k2 x2 y2
              have Ey := Lib.hid ey
              clear ey
              by_cases hy : y = 0
              · subst hy
                go_wp2_with fail
                go_roundg (gk - 1)
                case measure => have := hgt.out; omega
                case rel => exact ⟨t + 1, by have := hgt.out; show gk - 1 + (t + 1) = _; omega, by omega, by omega, by go_num, Lib.hid (by
                  rw [show t + 1 - j = (t - j) + 1 by omega, take_snoc_ (b.drop j) (t - j) 0 (by rw [List.length_drop, Hl.out]; omega), List.all_append, hz.out]
                  have e : (b.drop j).getD (t - j) 0 = 0 := by
                    have := Ey.out
                    simp only [List.getD, List.getElem?_drop]
                    rw [show j + (t - j) = t by omega]
                    exact this
                  rw [List.all_cons, e]; rfl), rfl⟩
              · have Hfin := Lib.hid (show parseO b = ([], 5) by
                  rw [Hp.out, hpa.out, Hd.out, parseL_zero]
                  have hno : ¬ (b.drop (j + 1)).all (fun x => x == 0) = true := by
                    intro hall
                    rw [List.all_eq_true] at hall
                    rcases Nat.lt_or_ge j t with hlt | hge
                    · have := hall (b.getD t 0) (by
                        rw [show b.getD t 0 = (b.drop (j + 1)).getD (t - (j + 1)) 0 by simp only [List.getD, List.getElem?_drop]; rw [show j + 1 + (t - (j + 1)) = t by omega]]
                        have hlen : t - (j + 1) < (b.drop (j + 1)).length := by rw [List.length_drop, Hl.out]; omega
                        simp only [List.getD, List.getElem?_eq_getElem hlen, Option.getD_some]
                        exact List.getElem_mem hlen)
                      rw [Ey.out] at this
                      exact hy (by simpa using this)
                    · obtain rfl : t = j := by omega
                      have h2 := Hd.out
                      rw [drop_cons_ b t (by rw [Hl.out]; exact hjn), Ey.out] at h2
                      exact hy (by injection h2)
                  rw [if_neg hno]
                  rfl)
                have hy2 : (y == 0) = false := by simpa using hy
                have hy3 : (y != 0) = true := by simpa using hy
                clear hy
                go_wp2_with fail
                go_ret2
                exact none_toldF Hfin.out hb
            · obtain rfl : t = n := by omega
              have Hfin := Lib.hid (show parseO b = (acc, 0) by
                rw [Hp.out, hpa.out, Hd.out, parseL_zero]
                have h2 := hz.out
                rw [List.take_of_length_le (by rw [List.length_drop, Hl.out]; omega), Hd.out, List.all_cons] at h2
                rw [if_pos (by simpa using h2)]
                simp [behindO])
              go_wp2_with fail
              go_ret2
              exact ⟨A2, m2, c2, os, by rw [Hfin.out]; rfl, hown.out, by rw [Hfin.out]; exact hrd.out, hb, hfo⟩
        · have hx0 : (x == 0) = false := by simpa using h0
          have H0 := Lib.hid h0
          clear h0
          by_cases h1 : x = 1
          · subst h1
            go_wp2_with fail
            go_roundg (gk - 1)
            case measure => have := hgk.out; omega
            case rel => exact ⟨j + 1, m2, A2, c2, os, acc, by have := hgk.out; show gk - 1 + (j + 1) = _; omega, by omega, by omega, by go_num, rfl, hown, hrd, Lib.hid (by rw [hpa.out, Hd.out, parseL_one]), hfo, hap, hb⟩
          · have hx1 : (x == 1) = false := by simpa using h1
            have H1 := Lib.hid h1
            clear h1
            by_cases hje : j + 1 < n
            · obtain ⟨p2, i2, k2, l2, x2, y2⟩ := byte_at (c := c) (Hr.out.below hb) (j + 1) ((j : Int) + 1) hje (by omega)
              have hd2 := drop_cons_ b (j + 1) (by rw [Hl.out]; exact hje)
              obtain ⟨y, ey⟩ : ∃ y, b.getD (j + 1) 0 = y := ⟨_, rfl⟩
              rw [ey] at k2 x2 y2 hd2
              have Hd2 := Lib.hid hd2
              clear ey hd2
              have hji : (j : Int) + 1 < (n : Int) := by omega
              have Hpo := Lib.hid (show parseO b = behindO acc (if y < 2 then ([], 5) else if ((b.drop (j + 2)).length : Int) + 2 < y then ([], 4) else behindO [(x, (b.drop (j + 2)).take (y - 2).toNat)] (parseL ((b.drop (j + 2)).drop (y - 2).toNat))) by
                rw [Hp.out, hpa.out, Hd.out, Hd2.out, parseL_opt x y _ H0.out H1.out])
              by_cases hy2 : y < 2
              · have Hfin := Lib.hid (show parseO b = ([], 5) by rw [Hpo.out, if_pos hy2]; rfl)
                go_wp2_with fail
                go_ret2
                exact none_toldF Hfin.out hb
              · have hy2' : 2 ≤ y := by omega
                by_cases hyn : (n : Int) < (j : Int) + y
                · have Hfin := Lib.hid (show parseO b = ([], 4) by rw [Hpo.out, if_neg hy2, if_pos (by rw [List.length_drop, Hl.out]; omega)]; rfl)
                  go_wp2_with fail
                  go_ret2
                  exact none_toldF Hfin.out hb
                · have hyn' : (j : Int) + y ≤ (n : Int) := by omega
                  obtain ⟨d, ed⟩ : ∃ d : Nat, y = 2 + (d : Int) := ⟨(y - 2).toNat, by omega⟩
                  have hdn : j + 2 + d ≤ n := by omega
                  obtain ⟨A3, hsl, hrp⟩ := Hr.out.part (c := c) (j + 2) (j + 2 + d) ((j : Int) + 2) ((j : Int) + y) (by omega) (by omega) hdn hc.1 hc.2 (by omega) (by omega)
                  rw [show j + 2 + d - (j + 2) = d by omega] at hsl hrp
                  have hlist : (b.take (j + 2 + d)).drop (j + 2) = (b.drop (j + 2)).take d := by rw [List.drop_take, show j + 2 + d - (j + 2) = d by omega]
                  rw [hlist] at hrp
                  obtain ⟨D, eD⟩ : ∃ D, (b.drop (j + 2)).take d = D := ⟨_, rfl⟩
                  rw [eD] at hrp
                  have Hpn := Lib.hid (show parseO b = behindO (acc ++ [(x, D)]) (parseL (b.drop (j + (2 + d)))) by
                    rw [Hpo.out, if_neg hy2, if_neg (by rw [List.length_drop, Hl.out]; omega), behindO_app, show (y - 2).toNat = d by omega, List.drop_drop, eD, show j + 2 + d = j + (2 + d) by omega])
                  have hw1 : IntKind.i64.wrap ((j : Int) + 2) = (j : Int) + 2 := IntWalk.i64_in _ (by omega)
                  have hw2 : IntKind.i64.wrap ((j : Int) + y) = (j : Int) + y := IntWalk.i64_in _ (by omega)
                  have hDb := hrp.byte
                  have Hrp := Lib.hid hrp
                  have Ed := Lib.hid ed
                  have hsof : ∀ w', Below w.heap.size w w' → w'.cell? p1 = some (.int .u8 x) := fun w' h => (h.cell l1).trans k0
                  have Sof := Lib.hid hsof
                  have HX := Lib.hid (show 0 ≤ x ∧ x < 256 from ⟨x1, y1⟩)
                  clear hlist eD ed hsof hrp hDb Hpo
                  go_wp2_with fail
                  refine wp_region_held_drew (S := fun w' => w'.cell? p1 = some (.int .u8 x)) (by kernel_rfl) (Sof.out _ (Below.drew hb)) (fun hHeld => ?_)
                  refine wpAnyH_take (i := 0) (oi := { dst := some 59, op := Go.Op.move (Go.Operand.tmp 4), type := 24, pos := "ref.go:51", after := #[], guard := none }) (v := ?_) rfl (by kernel_rfl) (by kernel_rfl) (by kernel_rfl) (fun _ _ _ h => h) (Or.inl ⟨by rfl, ?_⟩) (by assumption) ?_
                  rotate_left 1
                  · intro w' hSw; (go_simp <;> (with_reducible rfl))
                  (try simp only [Act.put, List.setIfInBounds_toArray, List.set_cons_zero, List.set_cons_succ])
                  refine wpAnyH_take (i := 1) (oi := { dst := some 60, op := Go.Op.move (Go.Operand.tmp 0), type := 25, pos := "ref.go:51", after := #[], guard := none }) (v := ?_) rfl (by kernel_rfl) (by kernel_rfl) (by kernel_rfl) (fun _ _ _ h => h) (Or.inl ⟨by rfl, ?_⟩) (by assumption) ?_
                  rotate_left 1
                  · intro w' hSw; (go_simp <;> (with_reducible rfl))
                  (try simp only [Act.put, List.setIfInBounds_toArray, List.set_cons_zero, List.set_cons_succ])
                  refine wpAnyH_take (i := 2) (oi := { dst := some 61, op := Go.Op.move (Go.Operand.tmp 5), type := 3, pos := "ref.go:51", after := #[], guard := none }) (v := ?_) rfl (by kernel_rfl) (by kernel_rfl) (by kernel_rfl) (fun _ _ _ h => h) (Or.inl ⟨by rfl, ?_⟩) (by assumption) ?_
                  rotate_left 1
                  · intro w' hSw; (go_simp <;> (with_reducible rfl))
                  (try simp only [Act.put, List.setIfInBounds_toArray, List.set_cons_zero, List.set_cons_succ])
                  refine wpAnyH_take (i := 3) (oi := { dst := some 62, op := Go.Op.indexAddr 25 (Go.Operand.tmp 60) (Go.Operand.tmp 61), type := 0, pos := "ref.go:51", after := #[{ on := 1, ground := Go.Ground.data }, { on := 2, ground := Go.Ground.data }], guard := none }) (v := ?_) rfl (by kernel_rfl) (by kernel_rfl) (by kernel_rfl) (fun _ _ _ h => h) (Or.inl ⟨by rfl, ?_⟩) (by assumption) ?_
                  rotate_left 1
                  · intro w' hSw; (go_simp <;> (with_reducible rfl))
                  (try simp only [Act.put, List.setIfInBounds_toArray, List.set_cons_zero, List.set_cons_succ])
                  refine wpAnyH_take (i := 4) (oi := { dst := some 63, op := Go.Op.load 5 (Go.Operand.tmp 62), type := 5, pos := "ref.go:51", after := #[{ on := 3, ground := Go.Ground.data }], guard := none }) (v := ?_) rfl (by kernel_rfl) (by kernel_rfl) (by kernel_rfl) (fun _ _ _ h => h) (Or.inl ⟨by rfl, ?_⟩) (by assumption) ?_
                  rotate_left 1
                  · intro w' hSw; (go_simp <;> (with_reducible rfl))
                  (try simp only [Act.put, List.setIfInBounds_toArray, List.set_cons_zero, List.set_cons_succ])
                  refine wpAnyH_take (i := 5) (oi := { dst := some 64, op := Go.Op.move (Go.Operand.tmp 0), type := 25, pos := "ref.go:51", after := #[], guard := none }) (v := ?_) rfl (by kernel_rfl) (by kernel_rfl) (by kernel_rfl) (fun _ _ _ h => h) (Or.inl ⟨by rfl, ?_⟩) (by assumption) ?_
                  rotate_left 1
                  · intro w' hSw; (go_simp <;> (with_reducible rfl))
                  (try simp only [Act.put, List.setIfInBounds_toArray, List.set_cons_zero, List.set_cons_succ])
                  refine wpAnyH_take (i := 6) (oi := { dst := some 65, op := Go.Op.move (Go.Operand.tmp 5), type := 3, pos := "ref.go:51", after := #[], guard := none }) (v := ?_) rfl (by kernel_rfl) (by kernel_rfl) (by kernel_rfl) (fun _ _ _ h => h) (Or.inl ⟨by rfl, ?_⟩) (by assumption) ?_
                  rotate_left 1
                  · intro w' hSw; (go_simp <;> (with_reducible rfl))
                  (try simp only [Act.put, List.setIfInBounds_toArray, List.set_cons_zero, List.set_cons_succ])
                  refine wpAnyH_take (i := 7) (oi := { dst := some 66, op := Go.Op.binOp Go.BinOp.add 3 (Go.Operand.tmp 65) (Go.Operand.const (Go.Value.int Go.IntKind.i64 2)) 3, type := 3, pos := "ref.go:51", after := #[{ on := 6, ground := Go.Ground.data }], guard := none }) (v := ?_) rfl (by kernel_rfl) (by kernel_rfl) (by kernel_rfl) (fun _ _ _ h => h) (Or.inl ⟨by rfl, ?_⟩) (by assumption) ?_
                  rotate_left 1
                  · intro w' hSw; (go_simp <;> (with_reducible rfl))
                  (try simp only [Act.put, List.setIfInBounds_toArray, List.set_cons_zero, List.set_cons_succ])
                  refine wpAnyH_take (i := 8) (oi := { dst := some 67, op := Go.Op.move (Go.Operand.tmp 5), type := 3, pos := "ref.go:51", after := #[], guard := none }) (v := ?_) rfl (by kernel_rfl) (by kernel_rfl) (by kernel_rfl) (fun _ _ _ h => h) (Or.inl ⟨by rfl, ?_⟩) (by assumption) ?_
                  rotate_left 1
                  · intro w' hSw; (go_simp <;> (with_reducible rfl))
                  (try simp only [Act.put, List.setIfInBounds_toArray, List.set_cons_zero, List.set_cons_succ])
                  refine wpAnyH_take (i := 9) (oi := { dst := some 68, op := Go.Op.move (Go.Operand.tmp 7), type := 3, pos := "ref.go:51", after := #[], guard := none }) (v := ?_) rfl (by kernel_rfl) (by kernel_rfl) (by kernel_rfl) (fun _ _ _ h => h) (Or.inl ⟨by rfl, ?_⟩) (by assumption) ?_
                  rotate_left 1
                  · intro w' hSw; (go_simp <;> (with_reducible rfl))
                  (try simp only [Act.put, List.setIfInBounds_toArray, List.set_cons_zero, List.set_cons_succ])
                  refine wpAnyH_take (i := 10) (oi := { dst := some 69, op := Go.Op.binOp Go.BinOp.add 3 (Go.Operand.tmp 67) (Go.Operand.tmp 68) 3, type := 3, pos := "ref.go:51", after := #[{ on := 8, ground := Go.Ground.data }, { on := 9, ground := Go.Ground.data }], guard := none }) (v := ?_) rfl (by kernel_rfl) (by kernel_rfl) (by kernel_rfl) (fun _ _ _ h => h) (Or.inl ⟨by rfl, ?_⟩) (by assumption) ?_
                  rotate_left 1
                  · intro w' hSw; (go_simp <;> (with_reducible rfl))
                  (try simp only [Act.put, List.setIfInBounds_toArray, List.set_cons_zero, List.set_cons_succ])
                  refine wpAnyH_take (i := 11) (oi := { dst := some 70, op := Go.Op.slice 25 (Go.Operand.tmp 64) (some (Go.Operand.tmp 66)) (some (Go.Operand.tmp 69)) none, type := 25, pos := "ref.go:51", after := #[{ on := 5, ground := Go.Ground.data }, { on := 7, ground := Go.Ground.data }, { on := 10, ground := Go.Ground.data }], guard := none }) (v := ?_) rfl (by kernel_rfl) (by kernel_rfl) (by kernel_rfl) (fun _ _ _ h => h) (Or.inl ⟨by rfl, ?_⟩) (by assumption) ?_
                  rotate_left 1
                  · intro w' hSw; (go_simp <;> (with_reducible rfl))
                  (try simp only [Act.put, List.setIfInBounds_toArray, List.set_cons_zero, List.set_cons_succ])
                  refine wpAnyH_ready (rs := [12]) (by kernel_rfl) (by simp) ?_
                  refine AllReadyH.cons (o := { dst := some 71, op := Go.Op.call { callee := Go.Callee.value (Go.Operand.func 80), args := #[Go.Operand.tmp 70], argTypes := #[25] }, type := 25, pos := "ref.go:51", after := #[{ on := 11, ground := Go.Ground.data }], guard := none }) rfl (fun K hK => ?_) AllReadyH.nil
                  go_simp
                  (go_at_call 80; refine (own_any A3 d (c - (j + 2)) D _ (by omega) (Hrp.out.below (Below.drew hb))).mono ?_; rintro e w4 ⟨A4, c4, rfl, hk4, hm4, hown4, hb4⟩; have HB4 := Lib.hid (show Below w.heap.size w w4 from (Below.drew hb).trans (hb4.mono hb.size)); have HF4 := Lib.hid (show Below wr.heap.size wr w4 from (Below.drew (Below.refl _ _)).trans hb4); have Ho5 := Lib.hid (hown.out.on (HF4.out.alloc HF4.out.size (.cells #[.int .u8 x, .slice A4 d c4] 39))); have Hown4 := Lib.hid hown4; clear hown4 hb4)
                  refine hK.out _ _ ?_ (fun hHeld => ?_)
                  · exact Sof.out _ HB4.out
                  clear hK K
                  (try simp only [Act.put, List.setIfInBounds_toArray, List.set_cons_zero, List.set_cons_succ])
                  refine wpAnyH_take (i := 13) (oi := { dst := some 72, op := Go.Op.build 39 #[(0, Go.Operand.tmp 63), (1, Go.Operand.tmp 71)], type := 39, pos := "ref.go:51", after := #[{ on := 4, ground := Go.Ground.data }, { on := 12, ground := Go.Ground.data }], guard := none }) (v := ?_) rfl (by kernel_rfl) (by kernel_rfl) (by kernel_rfl) (fun _ _ _ h => h) (Or.inl ⟨by rfl, ?_⟩) (by assumption) ?_
                  rotate_left 1
                  · intro w' hSw; (go_simp <;> (with_reducible rfl))
                  (try simp only [Act.put, List.setIfInBounds_toArray, List.set_cons_zero, List.set_cons_succ])
                  refine wpAnyH_ready (rs := [14]) (by kernel_rfl) (by simp) ?_
                  refine AllReadyH.cons (o := { dst := some 73, op := Go.Op.buildSlice 24 1 #[(0, Go.Operand.tmp 72)], type := 24, pos := "ref.go:51", after := #[{ on := 13, ground := Go.Ground.data }], guard := none }) rfl (fun K hK => ?_) AllReadyH.nil
                  go_simp
                  skip
                  refine hK.out _ _ ?_ (fun hHeld => ?_)
                  · exact Sof.out _ (HB4.out.alloc HB4.out.size _)
                  clear hK K
                  (try simp only [Act.put, List.setIfInBounds_toArray, List.set_cons_zero, List.set_cons_succ])
                  refine wpAnyH_ready (rs := [15]) (by kernel_rfl) (by simp) ?_
                  refine AllReadyH.cons (o := { dst := some 74, op := Go.Op.call { callee := Go.Callee.builtin Go.Builtin.append, args := #[Go.Operand.tmp 59, Go.Operand.tmp 73], argTypes := #[24, 24] }, type := 24, pos := "ref.go:51", after := #[{ on := 0, ground := Go.Ground.data }, { on := 14, ground := Go.Ground.data }, { on := 12, ground := Go.Ground.chain }], guard := none }) rfl (fun K hK => ?_) AllReadyH.nil
                  (refine step_appO (by rfl) (.tmp 59) (.tmp 73) (by rfl) w.heap.size A2 (some ⟨w4.heap.size, 0, none⟩) m2 c2 1 1 _ [⟨x, A4, d, c4⟩] (m2 + 1) _ rfl rfl (by rfl) (by rfl) Ho5.out (RdO.one w4 w4.heap.size rfl _ _ x A4 d c4) (by omega) (HB4.out.alloc HB4.out.size _).size ?_; intro A5 c5 w5 hown5 hgr5 hb5 hat5)
                  refine hK.out _ _ ?_ (fun hHeld => ?_)
                  · exact Sof.out _ ((HB4.out.alloc HB4.out.size _).trans hb5)
                  clear hK K
                  (try simp only [Act.put, List.setIfInBounds_toArray, List.set_cons_zero, List.set_cons_succ])
                  refine wpAnyH_take (i := 16) (oi := { dst := some 4, op := Go.Op.assign (Go.Operand.tmp 74), type := 24, pos := "ref.go:51", after := #[{ on := 15, ground := Go.Ground.data }, { on := 15, ground := Go.Ground.chain }, { on := 0, ground := Go.Ground.phase }, { on := 1, ground := Go.Ground.phase }, { on := 2, ground := Go.Ground.phase }, { on := 3, ground := Go.Ground.phase }, { on := 4, ground := Go.Ground.phase }, { on := 5, ground := Go.Ground.phase }, { on := 6, ground := Go.Ground.phase }, { on := 7, ground := Go.Ground.phase }, { on := 8, ground := Go.Ground.phase }, { on := 9, ground := Go.Ground.phase }, { on := 10, ground := Go.Ground.phase }, { on := 11, ground := Go.Ground.phase }, { on := 12, ground := Go.Ground.phase }, { on := 13, ground := Go.Ground.phase }, { on := 14, ground := Go.Ground.phase }, { on := 15, ground := Go.Ground.phase }], guard := none }) (v := ?_) rfl (by kernel_rfl) (by kernel_rfl) (by kernel_rfl) (fun _ _ _ h => h) (Or.inl ⟨by rfl, ?_⟩) (by assumption) ?_
                  rotate_left 1
                  · intro w' hSw; (go_simp <;> (with_reducible rfl))
                  (try simp only [Act.put, List.setIfInBounds_toArray, List.set_cons_zero, List.set_cons_succ])
                  have hA4 : 0 < d → ∀ b off, A4 = some ⟨b, off, none⟩ → wr.heap.size ≤ b ∧ b < (w4.alloc (.cells #[.int .u8 x, .slice A4 d c4] 39)).heap.size := by
                    intro h0 b' off' e
                    obtain ⟨g, e2, h1, h2⟩ := Hown4.out.addr h0
                    rw [e] at e2
                    injection e2 with e2
                    injection e2 with e2 _
                    subst e2
                    have : wr.heap.size ≤ b' := h1
                    refine ⟨this, ?_⟩
                    simp
                    omega
                  have hR4 := hrd.out.below (HF4.out.alloc HF4.out.size (.cells #[.int .u8 x, .slice A4 d c4] 39))
                  have hat4 : OptAt (w4.alloc (.cells #[.int .u8 x, .slice A4 d c4] 39)) ⟨x, A4, d, c4⟩ (x, D) := ⟨rfl, HX.out, hk4, hm4, (Hown4.out.rd Hrp.out.byte).below (Below.alloc (Below.refl _ _) (Nat.le_refl _) _)⟩
                  have hR5 : Reads (w4.alloc (.cells #[.int .u8 x, .slice A4 d c4] 39)) (os ++ [⟨x, A4, d, c4⟩]) (acc ++ [(x, D)]) := hR4.app ⟨hat4, trivial⟩
                  have hap4 : ApartO (os ++ [⟨x, A4, d, c4⟩]) A2 := ApartO.snoc (n' := m2) (c' := c2) hap hR4 hown.out hA4 (.inl rfl)
                  have hap5 : ApartO (os ++ [⟨x, A4, d, c4⟩]) A5 := ApartO.snoc hap hR4 hown.out hA4 hat5
                  have HR6 := Lib.hid (hR5.but (grown_but hgr5) hap4)
                  have HB5 := Lib.hid ((HB4.out.alloc HB4.out.size _).trans hb5)
                  have Hown5 := Lib.hid hown5
                  have Hap5 := Lib.hid hap5
                  have Hfo5 := Lib.hid (FreshO.snoc (v := ⟨x, A4, d, c4⟩) hfo (fun h0 b' off' e => Nat.le_trans hb.size (hA4 h0 b' off' e).1))
                  refine wpAnyH_done (by kernel_rfl) ?_ _
                  clear hA4 hR4 hat4 hR5 hap4 hap5 hgr5 hb5 hat5 hown5
                  go_wp2_with fail
                  go_roundg (n - (j + (2 + d)))
                  case measure => have := hgk.out; omega
                  case rel => exact ⟨j + (2 + d), m2 + 1, A5, c5, _, _, (show n - (j + (2 + d)) + (j + (2 + d)) = n by omega), by omega, by omega, by rw [show ((j + (2 + d) : Nat) : Int) = (j : Int) + y by have := Ed.out; omega], rfl, Hown5, HR6, Lib.hid (by rw [← Hp.out]; exact Hpn.out), Hfo5.out, Hap5.out, HB5.out⟩
            · have hji : (n : Int) ≤ (j : Int) + 1 := by omega
              have Hfin := Lib.hid (show parseO b = ([], 4) by
                rw [Hp.out, hpa.out, Hd.out, List.drop_eq_nil_of_le (by rw [Hl.out]; omega), parseL_end x H0.out H1.out]
                rfl)
              go_wp2_with fail
              go_ret2
              exact none_toldF Hfin.out hb
      · obtain rfl : j = n := by omega
        have Hfin := Lib.hid (show parseO b = (acc, 0) by
          rw [Hp.out, hpa.out, List.drop_eq_nil_of_le (by rw [Hl.out]; omega), parseL_nil]
          simp [behindO])
        go_wp2_with fail
        go_ret2
        exact ⟨A2, m2, c2, os, by rw [Hfin.out]; rfl, hown.out, by rw [Hfin.out]; exact hrd.out, hb, hfo⟩
theorem rparse_any (A : Option Addr) (n c : Nat) (b : List Int) (w : World) (hc : n ≤ c ∧ c ≤ maxLen) (hr : Rd w A n b) :
    Calls Try.prog 65 #[.slice A n c] w (ParseO b w) :=
  (rparse_own A n c b w hc hr).mono (by rintro e w' ⟨A', m, c', os, h1, h2, h3, h4, _⟩; exact ⟨A', m, c', os, h1, h2, h3, h4⟩)
end Go.Proofs.Ytoblllgefmajiaa
