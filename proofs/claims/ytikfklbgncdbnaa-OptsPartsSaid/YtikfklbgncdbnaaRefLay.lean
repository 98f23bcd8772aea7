/-
  The contracts of culvertref03's Lay (four bytes) and of culvertref05's WithSacks.
-/
import Derived.Test.YtikfklbgncdbnaaBlkRef
import Derived.Test.YtikfklbgncdbnaaOptParse
import Derived.Test.YtikfklbgncdbnaaHeldLast
namespace Go.Proofs.Ytikfklbgncdbnaa
set_option maxRecDepth 10000
open Go.RowKit

def be4 (x : Int) : List Int := [x / 16777216, x / 65536 % 256, x / 256 % 256, x % 256]
theorem wrap_u8_ (n : Int) : IntKind.u8.wrap n = n % 256 := by simp [IntKind.wrap, IntKind.bits, IntKind.signed]
theorem rlay_any (A : Option Addr) (n c : Nat) (l : List Int) (x : Int) (w : World) (hx : 0 ≤ x ∧ x < 4294967296) (hn : n ≤ 100000) (h : Rd w A n l) :
    Calls Try.prog 58 #[.slice A n c, .int .u32 x, .int .i64 4] w (RowIs (n + 4) (l ++ be4 x) w) := by
  have Hr := Lib.hid h
  have Hbyte := Lib.hid h.byte
  clear h
  obtain ⟨x0, x1⟩ := id hx
  go_enter Try.func58, Try.ntmps58
  go_wp2_with fail
  refine (own_any A n c l _ (by omega) Hr.out).mono ?_
  rintro e w1 ⟨A1, c1, rfl, hk1, hm1, hown1, hb1⟩
  have Hown1 := Lib.hid hown1
  clear hown1
  go_wp2_with fail
  go_loopg [7, 8] 4 (fun gk s i wr => ∃ (t : Nat) (A2 : Option Addr) (c2 : Nat), Hid (gk + t = 4) ∧ t ≤ 4 ∧ i = .int .i64 (3 - (t : Int)) ∧ s = .slice A2 (n + t) c2 ∧ Hid (OwnB wr w.heap.size A2 (n + t) c2 (l ++ (be4 x).take t)) ∧ Below w.heap.size w wr)
  case atStart => exact ⟨0, A1, c1, rfl, Nat.zero_le _, rfl, rfl, Lib.hid (by simpa using Hown1.out), hb1⟩
  case round =>
    obtain ⟨t, A2, c2, hgk, ht, rfl, rfl, hown, hb⟩ := hrel
    by_cases ht4 : t < 4
    · have hcase : t = 0 ∨ t = 1 ∨ t = 2 ∨ t = 3 := by omega
      have w0 := wrap_u8_ (x / 16777216)
      have w1 := wrap_u8_ (x / 65536)
      have w2 := wrap_u8_ (x / 256)
      have w3 := wrap_u8_ x
      have w4 : x / 16777216 % 256 = x / 16777216 := by omega
      rcases hcase with rfl | rfl | rfl | rfl
      · go_wp2_with (refine wpList_app rfl (.tmp 17) (.tmp 23) rfl w.heap.size A2 _ (n + 0) c2 1 1 _ [x / 16777216] rfl rfl (hown.out.on (Below.alloc (Below.refl _ _) (Nat.le_refl _) _)) (Rd.const_ wr wr.heap.size rfl [x / 16777216] _ _ (by simp; omega)) (by omega) (by have := hb.size; simp <;> omega) ?_; intro A3 c3 w5 hown3 _ hb3 _)
        go_roundg (gk - 1)
        case measure => have := hgk.out; omega
        case rel => exact ⟨1, A3, c3, by have := hgk.out; show gk - 1 + 1 = _; omega, by omega, by rfl, rfl, Lib.hid (by rw [show (be4 x).take 1 = (be4 x).take 0 ++ [x / 16777216] from rfl, ← List.append_assoc]; exact hown3), (hb.alloc hb.size _).trans hb3⟩
      · go_wp2_with (refine wpList_app rfl (.tmp 17) (.tmp 23) rfl w.heap.size A2 _ (n + 1) c2 1 1 _ [x / 65536 % 256] rfl rfl (hown.out.on (Below.alloc (Below.refl _ _) (Nat.le_refl _) _)) (Rd.const_ wr wr.heap.size rfl [x / 65536 % 256] _ _ (by simp; omega)) (by omega) (by have := hb.size; simp <;> omega) ?_; intro A3 c3 w5 hown3 _ hb3 _)
        go_roundg (gk - 1)
        case measure => have := hgk.out; omega
        case rel => exact ⟨2, A3, c3, by have := hgk.out; show gk - 1 + 2 = _; omega, by omega, by rfl, rfl, Lib.hid (by rw [show (be4 x).take 2 = (be4 x).take 1 ++ [x / 65536 % 256] from rfl, ← List.append_assoc]; exact hown3), (hb.alloc hb.size _).trans hb3⟩
      · go_wp2_with (refine wpList_app rfl (.tmp 17) (.tmp 23) rfl w.heap.size A2 _ (n + 2) c2 1 1 _ [x / 256 % 256] rfl rfl (hown.out.on (Below.alloc (Below.refl _ _) (Nat.le_refl _) _)) (Rd.const_ wr wr.heap.size rfl [x / 256 % 256] _ _ (by simp; omega)) (by omega) (by have := hb.size; simp <;> omega) ?_; intro A3 c3 w5 hown3 _ hb3 _)
        go_roundg (gk - 1)
        case measure => have := hgk.out; omega
        case rel => exact ⟨3, A3, c3, by have := hgk.out; show gk - 1 + 3 = _; omega, by omega, by rfl, rfl, Lib.hid (by rw [show (be4 x).take 3 = (be4 x).take 2 ++ [x / 256 % 256] from rfl, ← List.append_assoc]; exact hown3), (hb.alloc hb.size _).trans hb3⟩
      · go_wp2_with (refine wpList_app rfl (.tmp 17) (.tmp 23) rfl w.heap.size A2 _ (n + 3) c2 1 1 _ [x % 256] rfl rfl (hown.out.on (Below.alloc (Below.refl _ _) (Nat.le_refl _) _)) (Rd.const_ wr wr.heap.size rfl [x % 256] _ _ (by simp; omega)) (by omega) (by have := hb.size; simp <;> omega) ?_; intro A3 c3 w5 hown3 _ hb3 _)
        go_roundg (gk - 1)
        case measure => have := hgk.out; omega
        case rel => exact ⟨4, A3, c3, by have := hgk.out; show gk - 1 + 4 = _; omega, by omega, by rfl, rfl, Lib.hid (by rw [show (be4 x).take 4 = (be4 x).take 3 ++ [x % 256] from rfl, ← List.append_assoc]; exact hown3), (hb.alloc hb.size _).trans hb3⟩
    · obtain rfl : t = 4 := by omega
      go_wp2_with fail
      go_ret
      have ho := hown.out
      rw [show (be4 x).take 4 = be4 x from rfl] at ho
      exact ⟨A2, c2, rfl, ho.cap, ho.capMax, ho, hb⟩

def blkBytes (l : List (Int × Int)) : List Int := l.flatMap fun p => be4 p.1 ++ be4 p.2
theorem be4_bytes {x : Int} (h : 0 ≤ x ∧ x < 4294967296) : ∀ y ∈ be4 x, 0 ≤ y ∧ y < 256 := by intro y hy; simp [be4] at hy; omega
theorem blkBytes_bytes (l : List (Int × Int)) (h : ∀ p ∈ l, U32P p) : ∀ y ∈ blkBytes l, 0 ≤ y ∧ y < 256 := by
  intro y hy
  simp only [blkBytes, List.mem_flatMap, List.mem_append] at hy
  obtain ⟨p, hp, h1 | h1⟩ := hy
  · exact be4_bytes (h p hp).1 y h1
  · exact be4_bytes (h p hp).2 y h1
theorem blkBytes_len (l : List (Int × Int)) : (blkBytes l).length = 8 * l.length := by
  induction l with
  | nil => rfl
  | cons p l ih => simp [blkBytes, be4] at ih ⊢; omega
def SacksBad (x : Int) (w : World) (e : Ending) (w' : World) : Prop := e = .returned (.tuple #[.agg #[.int .u8 0, .slice none 0 0], .int .i64 x]) ∧ Below w.heap.size w w'
def SacksGood (n : Nat) (D : List Int) (w : World) (e : Ending) (w' : World) : Prop := ∃ A c, e = .returned (.tuple #[.agg #[.int .u8 5, .slice A (8 * n) c], .int .i64 0]) ∧ OwnB w' w.heap.size A (8 * n) c D ∧ Below w.heap.size w w'
/-- What WithSacks tells. -/
def WithSacksIs (l : List (Int × Int)) (w : World) (e : Ending) (w' : World) : Prop :=
  if l.length = 0 then SacksBad 1 w e w' else if 4 < l.length then SacksBad 3 w e w' else SacksGood l.length (blkBytes l) w e w'
theorem bytes_app_ {a b : List Int} (h : ∀ x ∈ a, 0 ≤ x ∧ x < 256) (k : ∀ x ∈ b, 0 ≤ x ∧ x < 256) : ∀ x ∈ a ++ b, 0 ≤ x ∧ x < 256 := fun x hx => by
  rcases List.mem_append.1 hx with h' | h'
  · exact h x h'
  · exact k x h'
theorem own_ne {w : World} {B n c g : Nat} {A : Option Addr} {l : List Int} {cs : Array Value} (h : OwnB w B A n c l) (hg : w.heap[g]? = some (.cells cs 31 (0, 0))) : ∀ k, A = some ⟨k, 0, none⟩ → k ≠ g := by
  intro k e he
  subst he
  rcases h.2 with ⟨e1, _⟩ | ⟨g', cap, cur, e1, _, hb, _⟩
  · injection e1 with e1 _ _; rw [e] at e1; cases e1
  · injection e1 with e1 _ _
    rw [e] at e1
    injection e1 with e1
    injection e1 with e1 _
    subst e1
    rw [hg] at hb
    injection hb with hb
    injection hb with _ hb _
    exact absurd hb (by decide)
theorem OwnB.butA {S : Nat → Prop} {w w' : World} {B : Nat} {A : Option Addr} {n c : Nat} {l : List Int} (h : OwnB w B A n c l) (hb : But S w w') (hS : ∀ k, A = some ⟨k, 0, none⟩ → ¬ S k) : OwnB w' B A n c l := by
  refine ⟨h.1, ?_⟩
  rcases h.2 with h0 | ⟨g, cap, cur, e, hB, hc, hrest⟩
  · exact .inl h0
  · exact .inr ⟨g, cap, cur, e, hB, hb.blk hc (hS g (by injection e)), hrest⟩

theorem rwithsacks_any (A : Option Addr) (n c : Nat) (l : List (Int × Int)) (w : World) (hn : n ≤ maxLen) (hr : RdK w A n l) :
    Calls Try.prog 31 #[.slice A n c] w (WithSacksIs l w) := by
  unfold maxLen at hn
  have hl := hr.len
  by_cases h0 : n = 0
  · subst h0
    suffices hq : Calls Try.prog 31 #[.slice A 0 c] w (SacksBad 1 w) from hq.mono fun e w' he => by unfold WithSacksIs; rw [if_pos hl]; exact he
    clear hr hl
    go_enter Try.func31, Try.ntmps31
    go_wp2_with fail
    exact bodyPost_ret (v := .tuple #[.agg #[.int .u8 0, .slice none 0 0], .int .i64 1]) (by simp [results, Try.results31, go_sem]) rfl ⟨rfl, (Below.refl _ _).alloc (Nat.le_refl _) _⟩
  · by_cases h4 : 4 < n
    · suffices hq : Calls Try.prog 31 #[.slice A n c] w (SacksBad 3 w) from hq.mono fun e w' he => by unfold WithSacksIs; rw [if_neg (by omega), if_pos (by omega)]; exact he
      have hi0 : ((n : Int) == 0) = false := by simp; omega
      have hi4 : 4 < (n : Int) := by omega
      clear hr hl
      go_enter Try.func31, Try.ntmps31
      go_wp2_with fail
      exact bodyPost_ret (v := .tuple #[.agg #[.int .u8 0, .slice none 0 0], .int .i64 3]) (by simp [results, Try.results31, go_sem]) rfl ⟨rfl, (Below.refl _ _).alloc (Nat.le_refl _) _⟩
    · suffices hq : Calls Try.prog 31 #[.slice A n c] w (SacksGood n (blkBytes l) w) from hq.mono fun e w' he => by unfold WithSacksIs; rw [if_neg (by omega), if_neg (by omega), hl]; exact he
      have hi0 : ((n : Int) == 0) = false := by simp; omega
      have hi4 : (n : Int) ≤ 4 := by omega
      have Hl := Lib.hid hl
      have Hr := Lib.hid hr
      clear hr hl
      obtain ⟨go, ego⟩ : ∃ go, w.heap.size + 1 = go := ⟨_, rfl⟩
      have hO := heap_alloc_new (w.alloc (.cells #[.int .u8 0, .slice none 0 0] 31)) (.cells #[.int .u8 5, .slice none 0 0] 31)
      have hR := heap_alloc_new w (.cells #[.int .u8 0, .slice none 0 0] 31)
      have Hb0 := Lib.hid (((Below.refl w.heap.size w).alloc (Nat.le_refl _) (.cells #[.int .u8 0, .slice none 0 0] 31)).alloc (by simp) (.cells #[.int .u8 5, .slice none 0 0] 31))
      have HO := Lib.hid (show ((w.alloc (.cells #[.int .u8 0, .slice none 0 0] 31)).alloc (.cells #[.int .u8 5, .slice none 0 0] 31)).heap[w.heap.size + 1]? = some (.cells #[.int .u8 5, .slice none 0 0] 31 (0, 0)) by simpa using hO)
      have HR := Lib.hid (show ((w.alloc (.cells #[.int .u8 0, .slice none 0 0] 31)).alloc (.cells #[.int .u8 5, .slice none 0 0] 31)).heap[w.heap.size]? = some (.cells #[.int .u8 0, .slice none 0 0] 31 (0, 0)) by rw [Below.heap_alloc _ _ _ (by simp)]; exact hR)
      clear hO hR ego
      go_enter Try.func31, Try.ntmps31
      go_wp2_with fail
      go_loopg [5] n (fun gk i wr => ∃ (j : Nat) (A2 : Option Addr) (c2 : Nat), Hid (gk + j = n) ∧ j ≤ n ∧ i = .int .i64 (j : Int) ∧ Hid (wr.heap[w.heap.size + 1]? = some (.cells #[.int .u8 5, .slice A2 (8 * j) c2] 31 (0, 0))) ∧ Hid (wr.heap[w.heap.size]? = some (.cells #[.int .u8 0, .slice none 0 0] 31 (0, 0))) ∧ Hid (OwnB wr w.heap.size A2 (8 * j) c2 (blkBytes (l.take j))) ∧ Below w.heap.size w wr)
      case atStart => exact ⟨0, none, 0, rfl, Nat.zero_le _, rfl, HO, HR, Lib.hid (by simpa [blkBytes] using OwnB.nil _ _), Hb0.out⟩
      case round =>
        obtain ⟨j, A2, c2, hgk, hj, rfl, ho, hres, hown, hb⟩ := hrel
        by_cases hjn : j < n
        · obtain ⟨b1, p1, hrun1, hb1, hk0, hd0, hu⟩ := Hr.out.index_r (c := c) hjn
          have hsn := take_snoc_ l j (0, 0) (by rw [Hl.out]; exact hjn)
          obtain ⟨l1, el1⟩ : ∃ v, l.getD j (0, 0) = v := ⟨_, rfl⟩
          rw [el1] at hk0 hd0 hu hsn
          obtain ⟨x1, y1⟩ := l1
          simp only at hk0 hd0
          have Hsn := Lib.hid hsn
          have Hu := Lib.hid hu
          have hlt := lt_of_block ho.out
          have hsof : ∀ w', Below wr.heap.size wr w' → w'.cell? ⟨w.heap.size + 1, 1, none⟩ = some (.slice A2 (8 * j) c2) ∧ w'.cell? ⟨b1, p1, none⟩ = some (.int .u32 x1) ∧ w'.cell? ⟨b1, p1 + 1, none⟩ = some (.int .u32 y1) := by
            intro w' h
            have hb' := below_trans hb h
            refine ⟨?_, (hb'.cell (p := ⟨b1, p1, none⟩) hb1).trans hk0, (hb'.cell (p := ⟨b1, p1 + 1, none⟩) hb1).trans hd0⟩
            have := blk_cell (blk_on ho.out h) 1
            simpa using this
          have Sof := Lib.hid hsof
          have hrd := hown.out.rd (blkBytes_bytes _ (fun p hp => Hr.out.u32 p (List.mem_of_mem_take hp)))
          have Hrd := Lib.hid hrd
          clear el1 hsn hu hsof hrd hk0 hd0
          go_wp2_with fail
          refine wp_region_heldL (S := fun w' => w'.cell? ⟨w.heap.size + 1, 1, none⟩ = some (.slice A2 (8 * j) c2) ∧ w'.cell? ⟨b1, p1, none⟩ = some (.int .u32 x1) ∧ w'.cell? ⟨b1, p1 + 1, none⟩ = some (.int .u32 y1)) 15 (by kernel_rfl) (Sof.out _ (Below.drew (Below.refl _ _))) (fun hHeld => ?_)
          refine anyHL_take (i := 0) (oi := { dst := some 21, op := Go.Op.fieldAddr 31 (Go.Operand.tmp 4) 1, type := 0, pos := "ref.go:149", after := #[], guard := none }) (v := ?_) rfl (by kernel_rfl) (by kernel_rfl) (by kernel_rfl) (by kernel_rfl) (fun _ _ _ h => h) (Or.inl ⟨by rfl, ?_⟩) (by assumption) ?_
          rotate_left 1
          · intro w' hSw; (go_simp <;> (with_reducible rfl))
          (try simp only [Act.put, List.setIfInBounds_toArray, List.set_cons_zero, List.set_cons_succ])
          refine anyHL_take (i := 1) (oi := { dst := some 22, op := Go.Op.load 22 (Go.Operand.tmp 21), type := 22, pos := "ref.go:149", after := #[{ on := 0, ground := Go.Ground.data }], guard := none }) (v := ?_) rfl (by kernel_rfl) (by kernel_rfl) (by kernel_rfl) (by kernel_rfl) (fun _ _ _ h => h) (Or.inl ⟨by rfl, ?_⟩) (by assumption) ?_
          rotate_left 1
          · intro w' hSw; (go_simp <;> (with_reducible rfl))
          (try simp only [Act.put, List.setIfInBounds_toArray, List.set_cons_zero, List.set_cons_succ])
          refine anyHL_take (i := 2) (oi := { dst := some 23, op := Go.Op.move (Go.Operand.tmp 0), type := 51, pos := "ref.go:149", after := #[], guard := none }) (v := ?_) rfl (by kernel_rfl) (by kernel_rfl) (by kernel_rfl) (by kernel_rfl) (fun _ _ _ h => h) (Or.inl ⟨by rfl, ?_⟩) (by assumption) ?_
          rotate_left 1
          · intro w' hSw; (go_simp <;> (with_reducible rfl))
          (try simp only [Act.put, List.setIfInBounds_toArray, List.set_cons_zero, List.set_cons_succ])
          refine anyHL_take (i := 3) (oi := { dst := some 24, op := Go.Op.move (Go.Operand.tmp 5), type := 3, pos := "ref.go:149", after := #[], guard := none }) (v := ?_) rfl (by kernel_rfl) (by kernel_rfl) (by kernel_rfl) (by kernel_rfl) (fun _ _ _ h => h) (Or.inl ⟨by rfl, ?_⟩) (by assumption) ?_
          rotate_left 1
          · intro w' hSw; (go_simp <;> (with_reducible rfl))
          (try simp only [Act.put, List.setIfInBounds_toArray, List.set_cons_zero, List.set_cons_succ])
          refine anyHL_take (i := 4) (oi := { dst := some 25, op := Go.Op.indexAddr 51 (Go.Operand.tmp 23) (Go.Operand.tmp 24), type := 0, pos := "ref.go:149", after := #[{ on := 2, ground := Go.Ground.data }, { on := 3, ground := Go.Ground.data }], guard := none }) (v := ?_) rfl (by kernel_rfl) (by kernel_rfl) (by kernel_rfl) (by kernel_rfl) (fun _ _ _ h => h) (Or.inl ⟨by rfl, ?_⟩) (by assumption) ?_
          rotate_left 1
          · intro w' hSw; (go_simp <;> (with_reducible rfl))
          (try simp only [Act.put, List.setIfInBounds_toArray, List.set_cons_zero, List.set_cons_succ])
          refine anyHL_take (i := 5) (oi := { dst := some 26, op := Go.Op.fieldAddr 56 (Go.Operand.tmp 25) 0, type := 0, pos := "ref.go:149", after := #[{ on := 4, ground := Go.Ground.data }], guard := none }) (v := ?_) rfl (by kernel_rfl) (by kernel_rfl) (by kernel_rfl) (by kernel_rfl) (fun _ _ _ h => h) (Or.inl ⟨by rfl, ?_⟩) (by assumption) ?_
          rotate_left 1
          · intro w' hSw; (go_simp <;> (with_reducible rfl))
          (try simp only [Act.put, List.setIfInBounds_toArray, List.set_cons_zero, List.set_cons_succ])
          refine anyHL_take (i := 6) (oi := { dst := some 27, op := Go.Op.load 53 (Go.Operand.tmp 26), type := 53, pos := "ref.go:149", after := #[{ on := 5, ground := Go.Ground.data }], guard := none }) (v := ?_) rfl (by kernel_rfl) (by kernel_rfl) (by kernel_rfl) (by kernel_rfl) (fun _ _ _ h => h) (Or.inl ⟨by rfl, ?_⟩) (by assumption) ?_
          rotate_left 1
          · intro w' hSw; (go_simp <;> (with_reducible rfl))
          (try simp only [Act.put, List.setIfInBounds_toArray, List.set_cons_zero, List.set_cons_succ])
          refine anyHL_take (i := 8) (oi := { dst := some 29, op := Go.Op.move (Go.Operand.tmp 0), type := 51, pos := "ref.go:149", after := #[], guard := none }) (v := ?_) rfl (by kernel_rfl) (by kernel_rfl) (by kernel_rfl) (by kernel_rfl) (fun _ _ _ h => h) (Or.inl ⟨by rfl, ?_⟩) (by assumption) ?_
          rotate_left 1
          · intro w' hSw; (go_simp <;> (with_reducible rfl))
          (try simp only [Act.put, List.setIfInBounds_toArray, List.set_cons_zero, List.set_cons_succ])
          refine anyHL_take (i := 9) (oi := { dst := some 30, op := Go.Op.move (Go.Operand.tmp 5), type := 3, pos := "ref.go:149", after := #[], guard := none }) (v := ?_) rfl (by kernel_rfl) (by kernel_rfl) (by kernel_rfl) (by kernel_rfl) (fun _ _ _ h => h) (Or.inl ⟨by rfl, ?_⟩) (by assumption) ?_
          rotate_left 1
          · intro w' hSw; (go_simp <;> (with_reducible rfl))
          (try simp only [Act.put, List.setIfInBounds_toArray, List.set_cons_zero, List.set_cons_succ])
          refine anyHL_take (i := 10) (oi := { dst := some 31, op := Go.Op.indexAddr 51 (Go.Operand.tmp 29) (Go.Operand.tmp 30), type := 0, pos := "ref.go:149", after := #[{ on := 8, ground := Go.Ground.data }, { on := 9, ground := Go.Ground.data }], guard := none }) (v := ?_) rfl (by kernel_rfl) (by kernel_rfl) (by kernel_rfl) (by kernel_rfl) (fun _ _ _ h => h) (Or.inl ⟨by rfl, ?_⟩) (by assumption) ?_
          rotate_left 1
          · intro w' hSw; (go_simp <;> (with_reducible rfl))
          (try simp only [Act.put, List.setIfInBounds_toArray, List.set_cons_zero, List.set_cons_succ])
          refine anyHL_take (i := 11) (oi := { dst := some 32, op := Go.Op.fieldAddr 56 (Go.Operand.tmp 31) 1, type := 0, pos := "ref.go:149", after := #[{ on := 10, ground := Go.Ground.data }], guard := none }) (v := ?_) rfl (by kernel_rfl) (by kernel_rfl) (by kernel_rfl) (by kernel_rfl) (fun _ _ _ h => h) (Or.inl ⟨by rfl, ?_⟩) (by assumption) ?_
          rotate_left 1
          · intro w' hSw; (go_simp <;> (with_reducible rfl))
          (try simp only [Act.put, List.setIfInBounds_toArray, List.set_cons_zero, List.set_cons_succ])
          refine anyHL_take (i := 12) (oi := { dst := some 33, op := Go.Op.load 53 (Go.Operand.tmp 32), type := 53, pos := "ref.go:149", after := #[{ on := 11, ground := Go.Ground.data }], guard := none }) (v := ?_) rfl (by kernel_rfl) (by kernel_rfl) (by kernel_rfl) (by kernel_rfl) (fun _ _ _ h => h) (Or.inl ⟨by rfl, ?_⟩) (by assumption) ?_
          rotate_left 1
          · intro w' hSw; (go_simp <;> (with_reducible rfl))
          (try simp only [Act.put, List.setIfInBounds_toArray, List.set_cons_zero, List.set_cons_succ])
          refine anyHL_one (i := 7) (o := { dst := some 28, op := Go.Op.call { callee := Go.Callee.value (Go.Operand.func 58), args := #[Go.Operand.tmp 22, Go.Operand.tmp 27, Go.Operand.const (Go.Value.int Go.IntKind.i64 4)], argTypes := #[22, 53, 3] }, type := 22, pos := "ref.go:149", after := #[{ on := 1, ground := Go.Ground.data }, { on := 6, ground := Go.Ground.data }], guard := none }) (by kernel_rfl) rfl (by kernel_rfl) (fun K hK => ?_)
          go_simp
          (go_at_call 58; refine (rlay_any A2 (8 * j) c2 _ x1 _ Hu.out.1 (by omega) (Hrd.out.below (Below.drew (Below.refl _ _)))).mono ?_; rintro e w4 ⟨A4, c4, rfl, hk4, hm4, hown4, hb4⟩; have HF4 := Lib.hid (show Below wr.heap.size wr w4 from (Below.drew (Below.refl _ _)).trans hb4); have Hown4 := Lib.hid (hown4.rd (bytes_app_ Hrd.out.byte (be4_bytes Hu.out.1))); clear hown4 hb4)
          refine hK.out _ _ ?_ (fun hHeld => ?_)
          · exact Sof.out _ HF4.out
          clear hK K
          (try simp only [Act.put, List.setIfInBounds_toArray, List.set_cons_zero, List.set_cons_succ])
          refine anyHL_one (i := 13) (o := { dst := some 34, op := Go.Op.call { callee := Go.Callee.value (Go.Operand.func 58), args := #[Go.Operand.tmp 28, Go.Operand.tmp 33, Go.Operand.const (Go.Value.int Go.IntKind.i64 4)], argTypes := #[22, 53, 3] }, type := 22, pos := "ref.go:149", after := #[{ on := 7, ground := Go.Ground.data }, { on := 12, ground := Go.Ground.data }, { on := 7, ground := Go.Ground.chain }], guard := none }) (by kernel_rfl) rfl (by kernel_rfl) (fun K hK => ?_)
          go_simp
          (go_at_call 58; refine (rlay_any A4 (8 * j + 4) c4 _ y1 _ Hu.out.2 (by omega) Hown4.out).mono ?_; rintro e w5 ⟨A5, c5, rfl, hk5, hm5, hown5, hb5⟩; have HF5 := Lib.hid (below_trans HF4.out hb5); have Hown5 := Lib.hid (hown5.mono HF4.out.size); clear hown5 hb5)
          refine hK.out _ _ ?_ (fun hHeld => ?_)
          · exact Sof.out _ HF5.out
          clear hK K
          (try simp only [Act.put, List.setIfInBounds_toArray, List.set_cons_zero, List.set_cons_succ])
          refine anyHL_take (i := 14) (oi := { dst := some 35, op := Go.Op.fieldAddr 31 (Go.Operand.tmp 4) 1, type := 0, pos := "ref.go:149", after := #[{ on := 0, ground := Go.Ground.phase }, { on := 1, ground := Go.Ground.phase }, { on := 2, ground := Go.Ground.phase }, { on := 3, ground := Go.Ground.phase }, { on := 4, ground := Go.Ground.phase }, { on := 5, ground := Go.Ground.phase }, { on := 6, ground := Go.Ground.phase }, { on := 7, ground := Go.Ground.phase }, { on := 8, ground := Go.Ground.phase }, { on := 9, ground := Go.Ground.phase }, { on := 10, ground := Go.Ground.phase }, { on := 11, ground := Go.Ground.phase }, { on := 12, ground := Go.Ground.phase }, { on := 13, ground := Go.Ground.phase }], guard := none }) (v := ?_) rfl (by kernel_rfl) (by kernel_rfl) (by kernel_rfl) (by kernel_rfl) (fun _ _ _ h => h) (Or.inl ⟨by rfl, ?_⟩) (by assumption) ?_
          rotate_left 1
          · intro w' hSw; (go_simp <;> (with_reducible rfl))
          (try simp only [Act.put, List.setIfInBounds_toArray, List.set_cons_zero, List.set_cons_succ])
          have hc5 := (Sof.out _ HF5.out).1
          have hf5 := blk_free (blk_on ho.out HF5.out) 1
          refine anyHL_last (o := { dst := none, op := Go.Op.store 22 (Go.Operand.tmp 35) (Go.Operand.tmp 34), type := 0, pos := "ref.go:149", after := #[{ on := 14, ground := Go.Ground.data }, { on := 13, ground := Go.Ground.data }, { on := 13, ground := Go.Ground.chain }, { on := 0, ground := Go.Ground.phase }, { on := 1, ground := Go.Ground.phase }, { on := 2, ground := Go.Ground.phase }, { on := 3, ground := Go.Ground.phase }, { on := 4, ground := Go.Ground.phase }, { on := 5, ground := Go.Ground.phase }, { on := 6, ground := Go.Ground.phase }, { on := 7, ground := Go.Ground.phase }, { on := 8, ground := Go.Ground.phase }, { on := 9, ground := Go.Ground.phase }, { on := 10, ground := Go.Ground.phase }, { on := 11, ground := Go.Ground.phase }, { on := 12, ground := Go.Ground.phase }, { on := 13, ground := Go.Ground.phase }], guard := none }) (by kernel_rfl) rfl (by kernel_rfl) (fun K hK => ?_)
          go_simp
          skip
          refine hK.out _ _ ?_
          clear hK K
          (try simp only [Act.put, List.setIfInBounds_toArray, List.set_cons_zero, List.set_cons_succ])
          have e8 : 8 * j + 4 + 4 = 8 * (j + 1) := by omega
          have hbut := But.setCell (S := fun k => k = w.heap.size + 1) (But.refl _ w5) (p := ⟨w.heap.size + 1, 1, none⟩) rfl (.slice A5 (8 * j + 4 + 4) c5)
          have HO5 := Lib.hid (show (w5.setCell ⟨w.heap.size + 1, 1, none⟩ (.slice A5 (8 * j + 4 + 4) c5)).heap[w.heap.size + 1]? = some (.cells #[.int .u8 5, .slice A5 (8 * (j + 1)) c5] 31 (0, 0)) by
            rw [Go.Joins.block_setCell (blk_on ho.out HF5.out), ← e8]; simp)
          have HR5 := Lib.hid (hbut.blk (blk_on hres.out HF5.out) (by omega))
          have hne := own_ne Hown5.out (blk_on ho.out HF5.out)
          have HW5 := Lib.hid (show OwnB (w5.setCell ⟨w.heap.size + 1, 1, none⟩ (.slice A5 (8 * j + 4 + 4) c5)) w.heap.size A5 (8 * (j + 1)) c5 (blkBytes (l.take (j + 1))) by
            have h1 := (Hown5.out.mono hb.size).butA hbut (fun k e h => hne k e h)
            rw [e8] at h1
            rw [Hsn.out, show blkBytes (l.take j ++ [(x1, y1)]) = blkBytes (l.take j) ++ be4 x1 ++ be4 y1 by simp [blkBytes]]
            rw [e8]
            exact h1)
          have HB5 := Lib.hid ((below_trans hb HF5.out).setCell (p := ⟨w.heap.size + 1, 1, none⟩) (by simp) (.slice A5 (8 * j + 4 + 4) c5))
          clear e8 hbut hne hc5 hf5
          go_wp2_with fail
          go_roundg (gk - 1)
          case measure => have := hgk.out; omega
          case rel => exact ⟨j + 1, A5, c5, by have := hgk.out; show gk - 1 + (j + 1) = _; omega, by omega, by go_num, HO5, HR5, HW5, HB5.out⟩
        · obtain rfl : j = n := by omega
          have o0 := blk_cell ho.out 0
          have o1 := blk_cell ho.out 1
          have r0 := blk_cell hres.out 0
          have r1 := blk_cell hres.out 1
          have rf := blk_free hres.out
          simp at o0 o1 r0 r1
          have ho2 := hown.out
          rw [List.take_of_length_le (by rw [Hl.out]; omega)] at ho2
          have hne := own_ne ho2 hres.out
          have Hfin := Lib.hid (show SacksGood j (blkBytes l) w (.returned (.tuple #[.agg #[.int .u8 5, .slice A2 (8 * j) c2], .int .i64 0])) ((wr.setCell ⟨w.heap.size, 0, none⟩ (.int .u8 5)).setCell ⟨w.heap.size, 1, none⟩ (.slice A2 (8 * j) c2)) from by
            have hbut := ((But.refl (fun k => k = w.heap.size) wr).setCell (p := ⟨w.heap.size, 0, none⟩) rfl (.int .u8 5)).setCell (p := ⟨w.heap.size, 1, none⟩) rfl (.slice A2 (8 * j) c2)
            exact ⟨A2, c2, rfl, ho2.butA hbut (fun k e h => hne k e h), (hb.setCell (p := ⟨w.heap.size, 0, none⟩) (by simp) _).setCell (p := ⟨w.heap.size, 1, none⟩) (by simp) _⟩)
          clear hne ho2
          go_wp2_with fail
          refine bodyPost_ret (v := .tuple #[.agg #[.int .u8 5, .slice A2 (8 * j) c2], .int .i64 0]) (by simp [results, Try.results31, go_sem, *]) rfl ?_
          exact Hfin.out
end Go.Proofs.Ytikfklbgncdbnaa
