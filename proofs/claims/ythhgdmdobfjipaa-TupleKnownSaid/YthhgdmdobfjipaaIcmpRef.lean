/-
  The document's own answers for messages (culvertref08): Sort, Echo, WithId, Same.
-/
import Derived.Test.YthhgdmdobfjipaaIcmp
import Derived.Test.YthhgdmdobfjipaaSumAny
import Derived.Test.YthhgdmdobfjipaaBut
import Derived.Deep.CutRange
import Derived.RegionTactic
import Derived.Laws.BitsLemmas
namespace Go.Proofs.Ythhgdmdobfjipaa
set_option maxRecDepth 10000
open Go.RowKit

theorem cells4 {w : World} {g : Nat} {u0 u1 u2 u3 : Value} {t : TypeId} (h : w.heap[g]? = some (.cells #[u0, u1, u2, u3] t (0, 0))) : w.cell? ⟨g, 0, none⟩ = some u0 ∧ w.cell? ⟨g, 1, none⟩ = some u1 ∧ w.cell? ⟨g, 2, none⟩ = some u2 ∧ w.cell? ⟨g, 3, none⟩ = some u3 := ⟨by rw [blk_cell h]; rfl, by rw [blk_cell h]; rfl, by rw [blk_cell h]; rfl, by rw [blk_cell h]; rfl⟩
def IntIs (x : Int) (w : World) (e : Ending) (w' : World) : Prop := e = .returned (.int .i64 x) ∧ Below w.heap.size w w'
theorem rsort8_any (ty cd rs : Int) (A : Option Addr) (n c : Nat) (x : Int) (w : World) (hx : sortM ty cd = x) :
    Calls Try.prog 30 #[.agg #[.int .u8 ty, .int .u8 cd, .int .u32 rs, .slice A n c]] w (IntIs x w) := by
  have Hb := Lib.hid ((Below.refl w.heap.size w).alloc (Nat.le_refl _) (.cells #[.int .u8 ty, .int .u8 cd, .int .u32 rs, .slice A n c] 33))
  by_cases h0 : ty = 0
  · subst h0
    by_cases h1 : cd = 0
    · subst h1
      have Hx := Lib.hid (show x = 2 by rw [← hx]; rfl)
      clear hx
      go_enter Try.func30, Try.ntmps30
      go_wp2_with fail
      go_ret
      exact ⟨by rw [Hx.out]; rfl, Hb.out⟩
    · have Hx := Lib.hid (show x = 0 by rw [← hx]; unfold sortM; simp [h1])
      have h1b : (cd == 0) = false := by simpa using h1
      clear hx h1
      go_enter Try.func30, Try.ntmps30
      go_wp2_with fail
      go_ret
      exact ⟨by rw [Hx.out]; rfl, Hb.out⟩
  have h0b : (ty == 0) = false := by simpa using h0
  by_cases h8 : ty = 8
  · subst h8
    by_cases h1 : cd = 0
    · subst h1
      have Hx := Lib.hid (show x = 1 by rw [← hx]; rfl)
      clear hx h0
      go_enter Try.func30, Try.ntmps30
      go_wp2_with fail
      go_ret
      exact ⟨by rw [Hx.out]; rfl, Hb.out⟩
    · have Hx := Lib.hid (show x = 0 by rw [← hx]; unfold sortM; simp [h1])
      have h1b : (cd == 0) = false := by simpa using h1
      clear hx h1 h0
      go_enter Try.func30, Try.ntmps30
      go_wp2_with fail
      go_ret
      exact ⟨by rw [Hx.out]; rfl, Hb.out⟩
  have h8b : (ty == 8) = false := by simpa using h8
  by_cases h3 : ty = 3
  · subst h3
    have Hx := Lib.hid (show x = 3 by rw [← hx]; rfl)
    clear hx h0 h8
    go_enter Try.func30, Try.ntmps30
    go_wp2_with fail
    go_ret
    exact ⟨by rw [Hx.out]; rfl, Hb.out⟩
  have h3b : (ty == 3) = false := by simpa using h3
  by_cases h11 : ty = 11
  · subst h11
    have Hx := Lib.hid (show x = 3 by rw [← hx]; rfl)
    clear hx h0 h8 h3
    go_enter Try.func30, Try.ntmps30
    go_wp2_with fail
    go_ret
    exact ⟨by rw [Hx.out]; rfl, Hb.out⟩
  have h11b : (ty == 11) = false := by simpa using h11
  by_cases h12 : ty = 12
  · subst h12
    have Hx := Lib.hid (show x = 3 by rw [← hx]; rfl)
    clear hx h0 h8 h3 h11
    go_enter Try.func30, Try.ntmps30
    go_wp2_with fail
    go_ret
    exact ⟨by rw [Hx.out]; rfl, Hb.out⟩
  have h12b : (ty == 12) = false := by simpa using h12
  have Hx := Lib.hid (show x = 0 by rw [← hx]; unfold sortM; rw [if_neg (fun h => h8 h.1), if_neg (fun h => h0 h.1), if_neg (fun h => by omega)])
  clear hx h0 h8 h3 h11 h12
  go_enter Try.func30, Try.ntmps30
  go_wp2_with fail
  go_ret
  exact ⟨by rw [Hx.out]; rfl, Hb.out⟩

theorem sort_echo (ty cd : Int) : echoM ty cd = true ∧ (sortM ty cd = 1 ∨ sortM ty cd = 2) ∨ echoM ty cd = false ∧ (sortM ty cd = 0 ∨ sortM ty cd = 3) := by
  unfold echoM sortM
  by_cases h1 : ty = 8 ∧ cd = 0
  · obtain ⟨rfl, rfl⟩ := h1; simp
  · by_cases h2 : ty = 0 ∧ cd = 0
    · obtain ⟨rfl, rfl⟩ := h2; simp
    · rw [if_neg h1, if_neg h2]
      refine .inr ⟨by (simp <;> omega), ?_⟩
      split
      · exact .inr rfl
      · exact .inl rfl
/-- An echo's id and number. -/
def EchoIs (ty cd rs : Int) (w : World) (e : Ending) (w' : World) : Prop :=
  (if echoM ty cd = true then e = .returned (.tuple #[.int .u16 (rs / 65536), .int .u16 (rs % 65536), .bool true]) else e = .returned (.tuple #[.int .u16 0, .int .u16 0, .bool false])) ∧ Below w.heap.size w w'
theorem recho8_any (ty cd rs : Int) (A : Option Addr) (n c : Nat) (w : World) (hr : 0 ≤ rs ∧ rs < 4294967296) :
    Calls Try.prog 18 #[.agg #[.int .u8 ty, .int .u8 cd, .int .u32 rs, .slice A n c]] w (EchoIs ty cd rs w) := by
  obtain ⟨z, hz⟩ : ∃ z, w.heap.size = z := ⟨_, rfl⟩
  have hb0 := (Below.refl w.heap.size w).alloc (Nat.le_refl _) (.cells #[.int .u8 ty, .int .u8 cd, .int .u32 rs, .slice A n c] 33)
  have hk := heap_alloc_new w (.cells #[.int .u8 ty, .int .u8 cd, .int .u32 rs, .slice A n c] 33)
  rw [hz] at hk
  obtain ⟨x, ex⟩ : ∃ x, sortM ty cd = x := ⟨_, rfl⟩
  have Hs := Lib.hid (fun W => rsort8_any ty cd rs A n c x W ex)
  have Hb := Lib.hid hb0
  have Hk := Lib.hid hk
  have hse := sort_echo ty cd
  rw [ex] at hse
  have hq1 : IntKind.u16.wrap (rs / 65536) = rs / 65536 := by (simp [IntKind.wrap, IntKind.bits, IntKind.signed] <;> omega)
  have hq2 : IntKind.u16.wrap (rs % 65536) = rs % 65536 := by (simp [IntKind.wrap, IntKind.bits, IntKind.signed] <;> omega)
  have hq5 : IntKind.u32.wrap (rs / 65536) = rs / 65536 := by (simp [IntKind.wrap, IntKind.bits, IntKind.signed] <;> omega)
  have hq3 : Int.tdiv rs 65536 = rs / 65536 := Int.tdiv_eq_ediv_of_nonneg hr.1
  have hq4 : Int.tmod rs 65536 = rs % 65536 := Int.tmod_eq_emod_of_nonneg hr.1
  clear hb0 hk ex
  rcases hse with ⟨he, hx⟩ | ⟨he, hx⟩
  · have h1 : (x == 0) = false := by simp; omega
    have h2 : (x == 3) = false := by simp; omega
    have He := Lib.hid he
    clear he hx hr
    go_enter Try.func18, Try.ntmps18
    go_wp2_with fail
    refine (Hs.out _).mono ?_
    rintro e w1 ⟨rfl, hb1⟩
    have hk1 := blk_on Hk.out hb1
    obtain ⟨c0, c1, c2, c3⟩ := cells4 hk1
    have Hb1 := Lib.hid (below_trans Hb.out hb1)
    clear hb1 hk1
    go_wp2_with fail
    go_region
    go_wp2_with fail
    refine bodyPost_ret (v := .tuple #[.int .u16 (rs / 65536), .int .u16 (rs % 65536), .bool true]) (by simp [results, Try.results18, go_sem]) rfl ?_
    exact ⟨by rw [if_pos He.out], Hb1.out.drew⟩
  · have He := Lib.hid (show ¬ echoM ty cd = true by rw [he]; simp)
    clear he hr
    rcases hx with rfl | rfl
    · go_enter Try.func18, Try.ntmps18
      go_wp2_with fail
      refine (Hs.out _).mono ?_
      rintro e w1 ⟨rfl, hb1⟩
      have Hb1 := Lib.hid (below_trans Hb.out hb1)
      clear hb1
      go_wp2_with fail
      refine bodyPost_ret (v := .tuple #[.int .u16 0, .int .u16 0, .bool false]) (by simp [results, Try.results18, go_sem]) rfl ?_
      exact ⟨by rw [if_neg He.out], Hb1.out⟩
    · go_enter Try.func18, Try.ntmps18
      go_wp2_with fail
      refine (Hs.out _).mono ?_
      rintro e w1 ⟨rfl, hb1⟩
      have Hb1 := Lib.hid (below_trans Hb.out hb1)
      clear hb1
      go_wp2_with fail
      refine bodyPost_ret (v := .tuple #[.int .u16 0, .int .u16 0, .bool false]) (by simp [results, Try.results18, go_sem]) rfl ?_
      exact ⟨by rw [if_neg He.out], Hb1.out⟩

def WithIs (s : Msg) (id : Int) (A : Option Addr) (n c : Nat) (w : World) (e : Ending) (w' : World) : Prop :=
  e = .returned (.agg #[.int .u8 (withM s id).ty, .int .u8 (withM s id).cd, .int .u32 (withM s id).rs, .slice A n c]) ∧ Below w.heap.size w w'
theorem withM_yes {s : Msg} (h : echoM s.ty s.cd = true) (id : Int) : withM s id = ⟨s.ty, s.cd, 65536 * id + s.rs % 65536, s.d⟩ := by unfold withM; rw [if_pos h]
theorem withM_no {s : Msg} (h : ¬ echoM s.ty s.cd = true) (id : Int) : withM s id = s := by unfold withM; rw [if_neg h]
theorem set_cell4 {w : World} {q : Nat} {u0 u1 u2 u3 : Value} {t : TypeId} (h : w.heap[q]? = some (.cells #[u0, u1, u2, u3] t (0, 0))) (v : Value) : (w.setCell ⟨q, 2, none⟩ v).heap[q]? = some (.cells #[u0, u1, v, u3] t (0, 0)) := by
  simp [World.setCell, Array.getElem?_modify, h]
theorem set4_blk {w : World} {q : Nat} {u0 u1 u2 u3 : Value} {t : TypeId} (h : w.heap[q]? = some (.cells #[u0, u1, u2, u3] t (0, 0))) (v0 v1 v2 v3 : Value) :
    ((((w.setCell ⟨q, 0, none⟩ v0).setCell ⟨q, 1, none⟩ v1).setCell ⟨q, 2, none⟩ v2).setCell ⟨q, 3, none⟩ v3).heap[q]? = some (.cells #[v0, v1, v2, v3] t (0, 0)) := by
  simp [World.setCell, Array.getElem?_modify, h]
theorem other_blk {w : World} {q p i : Nat} {o : Obj} (h : w.heap[q]? = some o) (hn : p ≠ q) (v : Value) : (w.setCell ⟨p, i, none⟩ v).heap[q]? = some o := by
  simp [World.setCell, Array.getElem?_modify, h, hn]
theorem strs_eqM (a b : List Int) (ha : ∀ x ∈ a, 0 ≤ x ∧ x < 256) (hb : ∀ x ∈ b, 0 ≤ x ∧ x < 256) : ((strOfNums a).toList == (strOfNums b).toList) = decide (a = b) := by
  rw [ByteArray.toList_eq, ByteArray.toList_eq]
  by_cases e : a = b
  · subst e; simp
  · rw [beq_eq_false_iff_ne.2 (fun x => e (nums_inj _ _ ha hb (by simpa [strOfNums_data] using x)))]
    simp [e]
end Go.Proofs.Ythhgdmdobfjipaa
