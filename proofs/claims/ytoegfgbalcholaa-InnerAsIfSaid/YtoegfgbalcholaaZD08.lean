/-
  Texts laid together: InRefRw, BytesEq, InRefOf, InFace.
-/
import Derived.Test.YtoegfgbalcholaaZD07
import Derived.Deep.DeepCutAuto
import Derived.Test.YtoegfgbalcholaaZD01
import Derived.Lib.Hide
import Derived.Outline
import Derived.Test.YtoegfgbalcholaaZD02
import Derived.Test.YtoegfgbalcholaaZD05

/-
  culvertref16's Rewrite (stage 16, written ahead).
-/
namespace Go.Proofs.Ytoegfgbalcholaa
set_option maxRecDepth 10000
open Go.RowKit
set_option linter.unusedSimpArgs false
set_option linter.unusedVariables false

/-- Bytes of the call's own, and an error. -/
def OwnQ (L : List Int) (m : Nat) (x : Int) (w : World) (e : Ending) (w' : World) : Prop := ∃ A c, e = .returned (.tuple #[.slice A m c, .int .i64 x]) ∧ OwnB w' w.heap.size A m c L ∧ Below w.heap.size w w'
def errR (b : List Int) (t : Tu) : Int := if errQ b ≠ 0 then errQ b else if t.pr ≠ b.getD 9 0 then 1 else 0
def rwR (b : List Int) (t : Tu) (sh : Int) : List Int := if errR b t = 0 then rwQ b t sh else []
theorem rwR_none {l L : List Int} {t : Tu} {sh : Int} {m : Nat} {x k : Int} (hL : rwR l t sh = L) (hm : L.length = m) (hx : errR l t = x) (he : errR l t = k) (h0 : k ≠ 0) : L = [] ∧ m = 0 ∧ x = k := by
  have e : rwR l t sh = [] := by unfold rwR; rw [if_neg (by omega)]
  rw [e] at hL
  subst hL
  exact ⟨rfl, by simpa using hm.symm, by omega⟩
theorem tu_at {w : World} {g : Nat} {T : TypeId} {t : Tu} (h : w.heap[g]? = some (.cells #[.int .u8 t.pr, .int .u32 t.sr, .int .u32 t.ds, .int .u16 t.sp, .int .u16 t.dp] T (0, 0))) : w.cell? ⟨g, 0, none⟩ = some (.int .u8 t.pr) ∧ w.cell? ⟨g, 1, none⟩ = some (.int .u32 t.sr) ∧ w.cell? ⟨g, 2, none⟩ = some (.int .u32 t.ds) ∧ w.cell? ⟨g, 3, none⟩ = some (.int .u16 t.sp) ∧ w.cell? ⟨g, 4, none⟩ = some (.int .u16 t.dp) := by
  refine ⟨?_, ?_, ?_, ?_, ?_⟩ <;> (rw [blk_cell h]; rfl)
/-- The lists of a rewriting, step by step. -/
structure StepQ (b M : List Int) : Prop where
  byte : Bytes M
  len : M.length = b.length
theorem StepQ.rd {b M : List Int} (h : StepQ b M) {w : World} {B : Nat} {A : Option Addr} {n c : Nat} (ho : OwnB w B A n c M) : Rd w A n M := ho.rd h.byte
theorem StepQ.head {b M M2 : List Int} (h : StepQ b M) (he : errQ b = 0) {k : Nat} (hk : 6 ≤ k ∧ k ≤ 9) {x : Int} (hx : U16 x) (e : chQ (bothQ b) M k x = M2) : StepQ b M2 := by
  subst e
  exact ⟨(may_head he h.byte h.len hk hx).bytes, (chQ_len _ _ _ _).trans h.len⟩
end Go.Proofs.Ytoegfgbalcholaa

/-
  The contract of bytes.Equal (for the stages that do not need the options'): over bytes that read as lists.
-/
namespace Go.Proofs.Ytoegfgbalcholaa
set_option maxRecDepth 10000
open Go.RowKit

theorem strs_eqB (a b : List Int) (ha : ∀ x ∈ a, 0 ≤ x ∧ x < 256) (hb : ∀ x ∈ b, 0 ≤ x ∧ x < 256) : ((strOfNums a).toList == (strOfNums b).toList) = decide (a = b) := by
  rw [ByteArray.toList_eq, ByteArray.toList_eq]
  by_cases e : a = b
  · subst e; simp
  · rw [beq_eq_false_iff_ne.2 (fun x => e (nums_inj _ _ ha hb (by simpa [strOfNums_data] using x)))]
    simp [e]
end Go.Proofs.Ytoegfgbalcholaa

/-
  culvertref16's Of and Like (stage 16, written ahead).
-/
namespace Go.Proofs.Ytoegfgbalcholaa
set_option maxRecDepth 10000
open Go.RowKit
set_option linter.unusedSimpArgs false
set_option linter.unusedVariables false

/-- The first bytes of a packet: how many, which. -/
def ofN (b : List Int) (many : Int) : Nat := if b.length < 20 then 0 else if many < 0 then b.length else min b.length (2 * qH b + many.toNat)
def ofL (b : List Int) (many : Int) : List Int := b.take (ofN b many)
theorem ofL_len (b : List Int) (many : Int) : (ofL b many).length = ofN b many := by
  unfold ofL ofN
  rw [List.length_take]
  split
  · omega
  · split <;> omega
set_option maxHeartbeats 1000000 in
theorem rlike16_any (A B : Option Addr) (n c m d : Nat) (a b : List Int) (A2 : Option Addr) (k c2 : Nat) (ks : List Nat) (x : Bool) (w : World) (hn : n ≤ 140737488351232) (hmn : m ≤ 140737488351232) (ha : Rd w A n a) (hb : Rd w B m b) (hF : RdI w A2 k (ks.map (fun f : Nat => 2 * (f : Int)))) (hk : ks.length = k) (hk2 : k ≤ 1000) (hkb : ∀ f ∈ ks, f ≤ 1000000) (hx : likeQ a b ks = x) :
    Calls Try.prog 18 #[.slice A n c, .slice B m d, .slice A2 k c2] w (BoolIs x w) := by
  have hla := ha.len
  have hlb := hb.len
  have HA := Lib.hid ha
  have HB := Lib.hid hb
  have HF := Lib.hid hF
  have Hk := Lib.hid hk
  have Hkb := Lib.hid hkb
  have Hx := Lib.hid hx
  have Hla := Lib.hid (And.intro hla hlb)
  have Hby := Lib.hid (And.intro ha.byte hb.byte)
  have hni : (n : Int) ≤ 140737488351232 := by omega
  have hki : (k : Int) ≤ 1000 := by omega
  clear ha hb hF hk hkb hx
  go_enter Try.func18, Try.ntmps18
  by_cases hnm : n = m
  · subst hnm
    have hc1 := conv_rd HA.out c
    clear hla hlb
    go_wp2_with (refine wpList_app rfl (.tmp 15) (.tmp 16) rfl w.heap.size none B 0 0 n d [] b rfl rfl (OwnB.nil _ _) HB.out (by omega) (Nat.le_refl _) ?_; intro A3 c3 w3 hown3 _ hbel3 _)
    have HO3 := Lib.hid (show OwnB w3 w.heap.size A3 n c3 b by simpa using hown3)
    have HB3 := Lib.hid hbel3
    clear hown3 hbel3
    try simp only [Nat.zero_add]
    go_wp2_with fail
    go_loopg [8] k (fun gk i wr => ∃ (j : Nat) (l2 : List Int), Hid (gk + j = k) ∧ j ≤ k ∧ i = .int .i64 (j : Int) ∧ Hid ((ks.take j).foldl (likeStep a b) b = l2) ∧ Hid (OwnB wr w.heap.size A3 n c3 l2) ∧ Hid (Below w.heap.size w wr))
    case atStart => exact ⟨0, b, rfl, Nat.zero_le _, rfl, rfl, HO3, HB3⟩
    case round =>
      obtain ⟨j, l2, hgk, hj, rfl, hl2, hO, hBe⟩ := hrel
      by_cases hjk : j < k
      · obtain ⟨f, ef⟩ : ∃ f, ks.getD j 0 = f := ⟨_, rfl⟩
        have hfm : f ∈ ks := by
          rw [← ef]
          simp only [List.getD]
          rw [List.getElem?_eq_getElem (by have := Hk.out; omega)]
          exact List.getElem_mem _
        have hf1 := Hkb.out f hfm
        obtain ⟨p, hidx, hpc, hpl⟩ := HF.out.index (c := c2) hjk
        have hv : (ks.map (fun f : Nat => 2 * (f : Int))).getD j 0 = 2 * (f : Int) := by
          rw [← ef]
          simp only [List.getD]
          rw [List.getElem?_map, List.getElem?_eq_getElem (by have := Hk.out; omega)]
          rfl
        rw [hv] at hpc
        have hpc : wr.cell? p = some (.int .i64 (2 * (f : Int))) := (hBe.out.cell hpl).trans hpc
        have Hst := Lib.hid (show (ks.take (j + 1)).foldl (likeStep a b) b = likeStep a b l2 f by
          rw [List.take_add_one, List.foldl_append, List.getElem?_eq_getElem (by have := Hk.out; omega), hl2.out, ← ef]
          simp [List.getD, show j < ks.length by have := Hk.out; omega])
        have Hjk := Lib.hid hjk
        have i0 : (0 : Int) ≤ (j : Int) := by omega
        have i1 : (j : Int) < (k : Int) := by omega
        have t2 : IntKind.i64.wrap (2 * (f : Int) + 2) = 2 * (f : Int) + 2 := IntWalk.i64_in _ (by omega)
        have t1 : IntKind.i64.wrap (2 * (f : Int) + 1) = 2 * (f : Int) + 1 := IntWalk.i64_in _ (by omega)
        clear hv hpl ef hfm
        by_cases hin : 2 * f + 2 ≤ n
        · have hini : 2 * (f : Int) + 2 ≤ (n : Int) := by omega
          obtain ⟨u, eu⟩ : ∃ y, wordL a f = y := ⟨_, rfl⟩
          obtain ⟨v, ev⟩ : ∃ y, wordL b f = y := ⟨_, rfl⟩
          have hub : U16 u := by rw [← eu]; exact wordL_bd Hby.out.1 f
          have hvb : U16 v := by rw [← ev]; exact wordL_bd Hby.out.2 f
          have hu16 : IntKind.u16.wrap u = u := IntWalk.u16_in _ hub
          have hv16 : IntKind.u16.wrap v = v := IntWalk.u16_in _ hvb
          obtain ⟨q, eq⟩ : ∃ q, likeB u v = q := ⟨_, rfl⟩
          have Heu := Lib.hid (And.intro eu ev)
          have Heq := Lib.hid eq
          have Hin := Lib.hid hin
          have HAr := Lib.hid (HA.out.below hBe.out)
          have HBr := Lib.hid (HB.out.below hBe.out)
          clear hub hvb hin eq eu ev
          go_wp2_with fail
          refine (num16_any A n c a (2 * (f : Int)) (2 * f) 2 u _ (Nat.le_trans hn (by decide)) (by simp) (by decide) (by have := Hin.out; omega) HAr.out (by rw [← Heu.out.1]; exact nmQ_two a f)).mono ?_
          rintro e w5 ⟨rfl, rfl⟩
          go_wp2_with fail
          refine (num16_any B n d b (2 * (f : Int)) (2 * f) 2 v _ (Nat.le_trans hn (by decide)) (by simp) (by decide) (by have := Hin.out; omega) HBr.out (by rw [← Heu.out.2]; exact nmQ_two b f)).mono ?_
          rintro e w5 ⟨rfl, rfl⟩
          go_wp2_with fail
          refine (like_any u v _).mono ?_
          rintro e w5 ⟨rfl, rfl⟩
          rw [Heq.out]
          cases q with
          | false =>
            have Hnx := Lib.hid (show (ks.take (j + 1)).foldl (likeStep a b) b = l2 by rw [Hst.out]; unfold likeStep; rw [Heu.out.1, Heu.out.2, Heq.out, if_neg (fun h => by cases h.2)])
            go_wp2_with fail
            go_roundg (gk - 1)
            case measure => have := hgk.out; have := Hjk.out; omega
            case rel => exact ⟨j + 1, l2, by have := hgk.out; have := Hjk.out; show gk - 1 + (j + 1) = _; omega, by have := Hjk.out; omega, by go_num, Hnx, hO, hBe⟩
          | true =>
            have Hnx := Lib.hid (show (ks.take (j + 1)).foldl (likeStep a b) b = layL l2 f u by rw [Hst.out]; unfold likeStep; rw [Heu.out.1, Heu.out.2, Heq.out, if_pos ⟨by have := Hin.out; have := Hla.out.1; omega, rfl⟩])
            obtain ⟨g, rfl, hgB, hgl⟩ := hO.out.addr (by have := Hin.out; omega)
            obtain ⟨qa, ra, ca, la⟩ := HA.out.index (c := c) (j := 2 * f) (by have := Hin.out; omega)
            obtain ⟨qb, rb, cb, lb⟩ := HA.out.index (c := c) (j := 2 * f + 1) (by have := Hin.out; omega)
            have ra : ∀ W : World, (Instr.indexAt 22 (.slice A n c) (.int .i64 (2 * (f : Int)))).run Try.prog W = .ok (.pointer (some qa)) W := fun W => by have := ra W; simpa using this
            have rb : ∀ W : World, (Instr.indexAt 22 (.slice A n c) (.int .i64 (2 * (f : Int) + 1))).run Try.prog W = .ok (.pointer (some qb)) W := fun W => by have := rb W; simpa using this
            obtain ⟨ga, gb⟩ := getD_parts a Hby.out.1 f
            rw [Heu.out.1] at ga gb
            rw [ga] at ca
            rw [gb] at cb
            have ca : wr.cell? qa = some (.int .u8 (u / 256)) := (hBe.out.cell la).trans ca
            have cb : wr.cell? qb = some (.int .u8 (u % 256)) := (hBe.out.cell lb).trans cb
            have g1 := hO.out.cell (2 * f) (by have := Hin.out; omega)
            have g2 := hO.out.cell (2 * f + 1) (by have := Hin.out; omega)
            have z1 : wr.frozen? ⟨g, 2 * f, none⟩ = false := World.ownsRow.frozenAt hO.out _
            have z2 : wr.frozen? ⟨g, 2 * f + 1, none⟩ = false := World.ownsRow.frozenAt hO.out _
            have cb2 : ∀ y : Value, (wr.setCell ⟨g, 2 * f, none⟩ y).cell? qb = some (.int .u8 (u % 256)) := fun y => by
              rw [World.cell?_of_block (w := wr) (Below.heap_setCell _ _ _ _ (fun e => by have e : g = qb.block := e.symm; omega))]
              exact cb
            obtain ⟨w6, e6⟩ : ∃ y, (wr.setCell ⟨g, 2 * f, none⟩ (.int .u8 (u / 256))).setCell ⟨g, 2 * f + 1, none⟩ (.int .u8 (u % 256)) = y := ⟨_, rfl⟩
            have HO6 := Lib.hid (show OwnB w6 w.heap.size (some ⟨g, 0, none⟩) n c3 (layL l2 f u) by rw [← e6]; exact lay_two hO.out f u)
            have HB6 := Lib.hid (show Below w.heap.size w w6 by rw [← e6]; exact (hBe.out.setCell (p := ⟨g, 2 * f, none⟩) hgB _).setCell (p := ⟨g, 2 * f + 1, none⟩) hgB _)
            have E6 := Lib.hid e6
            have hfi : 2 * (f : Int) + 1 < (n : Int) := by omega
            clear e6 hgB hgl la lb
            go_upto_region 7 with (fail)
            rw [E6.out]
            clear g1 g2 z1 z2 ca cb cb2 ra rb
            go_wp2_with fail
            go_roundg (gk - 1)
            case measure => have := hgk.out; have := Hjk.out; omega
            case rel => exact ⟨j + 1, _, by have := hgk.out; have := Hjk.out; show gk - 1 + (j + 1) = _; omega, by have := Hjk.out; omega, by go_num, Hnx, HO6, HB6⟩
        · have hini : ¬ 2 * (f : Int) + 2 ≤ (n : Int) := by omega
          have Hnx := Lib.hid (show (ks.take (j + 1)).foldl (likeStep a b) b = l2 by rw [Hst.out]; unfold likeStep; rw [if_neg (fun h => by have := h.1; have := Hla.out.1; omega)])
          clear hin
          go_wp2_with fail
          go_roundg (gk - 1)
          case measure => have := hgk.out; have := Hjk.out; omega
          case rel => exact ⟨j + 1, l2, by have := hgk.out; have := Hjk.out; show gk - 1 + (j + 1) = _; omega, by have := Hjk.out; omega, by go_num, Hnx, hO, hBe⟩
      · obtain rfl : k = j := by omega
        have hl3 : ks.foldl (likeStep a b) b = l2 := by rw [← hl2.out, ← Hk.out, List.take_length]
        have hby2 : Bytes l2 := by
          have hall : ∀ (ks : List Nat) (y : List Int), Bytes y → Bytes (ks.foldl (likeStep a b) y) := by
            intro ks
            induction ks with
            | nil => exact fun y h => h
            | cons f ks ih =>
              intro y h
              rw [List.foldl_cons]
              refine ih _ ?_
              unfold likeStep
              split
              · exact layL_byte h f (wordL_bd Hby.out.1 f)
              · exact h
          rw [← hl3]; exact hall ks b Hby.out.2
        have hRx := hO.out.rd hby2
        have hc1 := conv_rd (HA.out.below hBe.out) c
        have hc2 := conv_rd hRx c3
        have Hse := Lib.hid (show ((strOfNums a).toList == (strOfNums l2).toList) = x by
          rw [strs_eqB a l2 Hby.out.1 hby2, ← Hx.out]
          unfold likeQ
          rw [hl3, show decide (a.length = b.length) = true from decide_eq_true (by rw [Hla.out.1, Hla.out.2]), Bool.true_and])
        clear hl3 hby2 hRx
        go_wp2_with fail
        go_ret
        exact ⟨ret_bool Hse.out, hBe.out⟩
  · have hnmi : ((n : Int) != (m : Int)) = true := bne_iff_ne.2 (fun h => hnm (by omega))
    have Hxf := Lib.hid (show false = x by rw [← Hx.out]; unfold likeQ; rw [show decide (a.length = b.length) = false from decide_eq_false (by rw [Hla.out.1, Hla.out.2]; exact hnm)]; rfl)
    clear hla hlb hnm
    go_wp2_with fail
    go_ret
    exact ⟨ret_bool Hxf.out, Below.refl _ _⟩
end Go.Proofs.Ytoegfgbalcholaa

/-
  What Read, Rewrite and Of of package inner must do, as the laws ask it (stage 16, written ahead).
-/
namespace Go.Proofs.Ytoegfgbalcholaa
set_option maxRecDepth 10000
open Go.RowKit
set_option linter.unusedSimpArgs false
set_option linter.unusedVariables false

def ReadF16 : Prop := ∀ (A : Option Addr) (n c : Nat) (b : List Int) (t : Tu) (s x : Int) (w : World), n ≤ c ∧ c ≤ maxLen → n ≤ 140737488351232 → Rd w A n b → qT b = t → qS b = s → errQ b = x →
  Calls Try.prog 7 #[.slice A n c] w (QuoteIs t s x w)
def RwF16 : Prop := ∀ (A : Option Addr) (n c : Nat) (b : List Int) (t : Tu) (sh : Int) (w : World) (L : List Int) (m : Nat) (x : Int), n ≤ c ∧ c ≤ maxLen → n ≤ 140737488351232 → Rd w A n b → TuNum t → 0 ≤ sh ∧ sh < 4294967296 → rwR b t sh = L → L.length = m → errR b t = x →
  Calls Try.prog 9 #[.slice A n c, .agg #[.int .u8 t.pr, .int .u32 t.sr, .int .u32 t.ds, .int .u16 t.sp, .int .u16 t.dp], .int .u32 sh] w (OwnQ L m x w)
def OfF16 : Prop := ∀ (A : Option Addr) (n c : Nat) (b : List Int) (many : Int) (L : List Int) (K : Nat) (w : World), n ≤ c ∧ c ≤ maxLen → n ≤ 140737488351232 → Rd w A n b → -9223372036854775808 ≤ many ∧ many ≤ 9223372036854775807 → ofL b many = L → L.length = K →
  Calls Try.prog 11 #[.slice A n c, .int .i64 many] w (RowIs K L w)
def AwF16 : Prop := ∀ w : World, Calls Try.prog 13 #[] w (Woke w)
end Go.Proofs.Ytoegfgbalcholaa
