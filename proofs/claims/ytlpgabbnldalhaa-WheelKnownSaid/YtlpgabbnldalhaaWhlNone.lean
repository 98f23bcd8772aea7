/-
  Package wheel's calls of no wheel, and of one that New did not make.
-/
import Derived.Test.YtlpgabbnldalhaaWhlFace
namespace Go.Proofs.Ytlpgabbnldalhaa
set_option maxRecDepth 10000
open Go.RowKit
set_option linter.unusedSimpArgs false
set_option linter.unusedVariables false

def ZeroW (w : World) (g : Nat) : Prop := w.cell? ⟨g, 0, none⟩ = some (.pointer none)
theorem ntick (now : Int) (w : World)  : Calls Try.prog 13 #[.pointer none, .int .u64 now] w (JustIs (.tuple #[.slice none 0 0, .int .i64 2]) w) := by
  have Hno := Lib.hid (wnone_nil w)
  skip
  go_enter Try.func13, Try.ntmps13
  go_wp2_with fail
  refine Hno.out.mono ?_
  rintro e w1 ⟨rfl, rfl⟩
  go_wp2_with fail
  first | go_ret | go_ret2
  exact ⟨rfl, rfl⟩
theorem nset (id at_ : Int) (w : World)  : Calls Try.prog 9 #[.pointer none, .int .u64 id, .int .u64 at_] w (JustIs (.int .i64 2) w) := by
  have Hno := Lib.hid (wnone_nil w)
  skip
  go_enter Try.func9, Try.ntmps9
  go_wp2_with fail
  refine Hno.out.mono ?_
  rintro e w1 ⟨rfl, rfl⟩
  go_wp2_with fail
  first | go_ret | go_ret2
  exact ⟨rfl, rfl⟩
theorem nnow  (w : World)  : Calls Try.prog 21 #[.pointer none] w (JustIs (.int .u64 0) w) := by
  have Hno := Lib.hid (wnone_nil w)
  skip
  go_enter Try.func21, Try.ntmps21
  go_wp2_with fail
  refine Hno.out.mono ?_
  rintro e w1 ⟨rfl, rfl⟩
  go_wp2_with fail
  first | go_ret | go_ret2
  exact ⟨rfl, rfl⟩
theorem nlen  (w : World)  : Calls Try.prog 22 #[.pointer none] w (JustIs (.int .i64 0) w) := by
  have Hno := Lib.hid (wnone_nil w)
  skip
  go_enter Try.func22, Try.ntmps22
  go_wp2_with fail
  refine Hno.out.mono ?_
  rintro e w1 ⟨rfl, rfl⟩
  go_wp2_with fail
  first | go_ret | go_ret2
  exact ⟨rfl, rfl⟩
theorem zat (g : Nat) (id : Int) (w : World) (h : ZeroW w g) : Calls Try.prog 19 #[.pointer (some ⟨g, 0, none⟩), .int .u64 id] w (JustIs (.tuple #[.int .u64 0, .bool false]) w) := by
  have Hno := Lib.hid (wnone_zero g w h)
  clear h
  go_enter Try.func19, Try.ntmps19
  go_wp2_with fail
  refine Hno.out.mono ?_
  rintro e w1 ⟨rfl, rfl⟩
  go_wp2_with fail
  first | go_ret | go_ret2
  exact ⟨rfl, rfl⟩
theorem zlen (g : Nat) (w : World) (h : ZeroW w g) : Calls Try.prog 22 #[.pointer (some ⟨g, 0, none⟩)] w (JustIs (.int .i64 0) w) := by
  have Hno := Lib.hid (wnone_zero g w h)
  clear h
  go_enter Try.func22, Try.ntmps22
  go_wp2_with fail
  refine Hno.out.mono ?_
  rintro e w1 ⟨rfl, rfl⟩
  go_wp2_with fail
  first | go_ret | go_ret2
  exact ⟨rfl, rfl⟩
theorem znow (g : Nat) (w : World) (h : ZeroW w g) : Calls Try.prog 21 #[.pointer (some ⟨g, 0, none⟩)] w (JustIs (.int .u64 0) w) := by
  have Hno := Lib.hid (wnone_zero g w h)
  clear h
  go_enter Try.func21, Try.ntmps21
  go_wp2_with fail
  refine Hno.out.mono ?_
  rintro e w1 ⟨rfl, rfl⟩
  go_wp2_with fail
  first | go_ret | go_ret2
  exact ⟨rfl, rfl⟩
theorem zstop (g : Nat) (id : Int) (w : World) (h : ZeroW w g) : Calls Try.prog 11 #[.pointer (some ⟨g, 0, none⟩), .int .u64 id] w (JustIs (.int .i64 2) w) := by
  have Hno := Lib.hid (wnone_zero g w h)
  clear h
  go_enter Try.func11, Try.ntmps11
  go_wp2_with fail
  refine Hno.out.mono ?_
  rintro e w1 ⟨rfl, rfl⟩
  go_wp2_with fail
  first | go_ret | go_ret2
  exact ⟨rfl, rfl⟩
theorem zcopy (g : Nat) (w : World) (h : ZeroW w g) : Calls Try.prog 16 #[.pointer (some ⟨g, 0, none⟩)] w (JustIs (.pointer none) w) := by
  have Hno := Lib.hid (wnone_zero g w h)
  clear h
  go_enter Try.func16, Try.ntmps16
  go_wp2_with fail
  refine Hno.out.mono ?_
  rintro e w1 ⟨rfl, rfl⟩
  go_wp2_with fail
  first | go_ret | go_ret2
  exact ⟨rfl, rfl⟩
theorem znext (g : Nat) (w : World) (h : ZeroW w g) : Calls Try.prog 17 #[.pointer (some ⟨g, 0, none⟩)] w (JustIs (.tuple #[.int .u64 0, .bool false]) w) := by
  have Hno := Lib.hid (zlen g w h)
  clear h
  go_enter Try.func17, Try.ntmps17
  go_wp2_with fail
  refine Hno.out.mono ?_
  rintro e w1 ⟨rfl, rfl⟩
  go_wp2_with fail
  first | go_ret | go_ret2
  exact ⟨rfl, rfl⟩
end Go.Proofs.Ytlpgabbnldalhaa
