/-
  The walks of package wheel's Set and Stop, over what takeDown and hang leave.
-/
import Derived.Test.YtlpgabbnldalhaaWhlRead
namespace Go.Proofs.Ytlpgabbnldalhaa
set_option maxRecDepth 10000
open Go.RowKit
set_option linter.unusedSimpArgs false
set_option linter.unusedVariables false

def RetP (v : Value) (P : World → Prop) (e : Ending) (w' : World) : Prop := e = .returned v ∧ P w'
def RetB (P : World → Prop) (e : Ending) (w' : World) : Prop := ∃ b, e = .returned (.bool b) ∧ P w'
theorem set_bad (g : Nat) (id at_ : Int) (w : World) (h0 : w.cell? ⟨g, 0, none⟩ = some (.pointer (some ⟨g, 0, none⟩))) (hb : bigW < at_) :
    Calls Try.prog 9 #[.pointer (some ⟨g, 0, none⟩), .int .u64 id, .int .u64 at_] w (JustIs (.int .i64 1) w) := by
  have Hno := Lib.hid (wnone_no g w h0)
  have hd : decide (1099511627776 < at_) = true := decide_eq_true hb
  clear h0
  go_enter Try.func9, Try.ntmps9
  go_wp2_with fail
  refine Hno.out.mono ?_
  rintro e w1 ⟨rfl, rfl⟩
  go_wp2_with fail
  go_ret
  exact ⟨rfl, rfl⟩
theorem set_good (g : Nat) (id at_ : Int) (P1 P2 : World → Prop) (w : World) (h0 : w.cell? ⟨g, 0, none⟩ = some (.pointer (some ⟨g, 0, none⟩))) (hb : ¬ bigW < at_)
    (ht : Calls Try.prog 26 #[.pointer (some ⟨g, 0, none⟩), .int .u64 id] w (RetB P1))
    (hh : ∀ w1, P1 w1 → Calls Try.prog 27 #[.pointer (some ⟨g, 0, none⟩), .agg #[.int .u64 at_, .int .u64 id]] w1 (RetP (.tuple #[]) P2)) :
    Calls Try.prog 9 #[.pointer (some ⟨g, 0, none⟩), .int .u64 id, .int .u64 at_] w (RetP (.int .i64 0) P2) := by
  have Hno := Lib.hid (wnone_no g w h0)
  have hd : decide (1099511627776 < at_) = false := decide_eq_false hb
  have Ht := Lib.hid ht
  have Hh := Lib.hid hh
  clear h0 ht hh
  go_enter Try.func9, Try.ntmps9
  go_wp2_with fail
  refine Hno.out.mono ?_
  rintro e w1 ⟨rfl, rfl⟩
  go_wp2_with fail
  refine Ht.out.mono ?_
  rintro e w1 ⟨b, rfl, hP1⟩
  have Hh1 := Lib.hid (Hh.out w1 hP1)
  clear hP1
  go_wp2_with fail
  refine Hh1.out.mono ?_
  rintro e w2 ⟨rfl, hP2⟩
  have HP2 := Lib.hid hP2
  clear hP2
  go_wp2_with fail
  go_ret
  exact ⟨rfl, HP2.out⟩
theorem stop_walk (g : Nat) (id x : Int) (b : Bool) (P1 : World → Prop) (w : World) (h0 : w.cell? ⟨g, 0, none⟩ = some (.pointer (some ⟨g, 0, none⟩))) (hx : (if b = true then 0 else 6) = x)
    (ht : Calls Try.prog 26 #[.pointer (some ⟨g, 0, none⟩), .int .u64 id] w (RetP (.bool b) P1)) :
    Calls Try.prog 11 #[.pointer (some ⟨g, 0, none⟩), .int .u64 id] w (RetP (.int .i64 x) P1) := by
  have Hno := Lib.hid (wnone_no g w h0)
  have Ht := Lib.hid ht
  clear h0 ht
  cases b with
  | true =>
    obtain rfl : x = 0 := hx.symm
    go_enter Try.func11, Try.ntmps11
    go_wp2_with fail
    refine Hno.out.mono ?_
    rintro e w1 ⟨rfl, rfl⟩
    go_wp2_with fail
    refine Ht.out.mono ?_
    rintro e w1 ⟨rfl, hP1⟩
    have HP1 := Lib.hid hP1
    clear hP1
    go_wp2_with fail
    go_ret
    exact ⟨rfl, HP1.out⟩
  | false =>
    obtain rfl : x = 6 := hx.symm
    go_enter Try.func11, Try.ntmps11
    go_wp2_with fail
    refine Hno.out.mono ?_
    rintro e w1 ⟨rfl, rfl⟩
    go_wp2_with fail
    refine Ht.out.mono ?_
    rintro e w1 ⟨rfl, hP1⟩
    have HP1 := Lib.hid hP1
    clear hP1
    go_wp2_with fail
    go_ret
    exact ⟨rfl, HP1.out⟩
end Go.Proofs.Ytlpgabbnldalhaa
