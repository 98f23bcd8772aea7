/-
  Law 17's arguments, opened: a handshake (Shake), what is said (Info), later (Later).
-/
import Derived.Test.YtgcliijngaohdaaDoorTupOpen
import Derived.Test.YtgcliijngaohdaaDoorCkNum
namespace Go.Proofs.YtgcliijngaohdaaDoor
set_option maxRecDepth 10000
open Go.Joins Go.ChangeShapes Go.WideShapes Go.ChangeAt Go.RowKit Go.Deep
set_option linter.unusedVariables false

def ShakeAt (_w : World) (v : Value) : Prop := ∃ (key : Int) (t : Tu) (cl tick : Int), v = .agg #[.int .u64 key, .int .u8 t.pr, .int .u32 t.sr, .int .u32 t.ds, .int .u16 t.sp, .int .u16 t.dp, .int .u32 cl, .int .u64 tick] ∧ U64C key ∧ TuNum t ∧ (0 ≤ cl ∧ cl < 4294967296) ∧ U64C tick
def InfoAt (_w : World) (v : Value) : Prop := ∃ (c : Int) (k : Bool) (s : Int), v = .agg #[.int .i64 c, .bool k, .int .i64 s] ∧ (-9223372036854775808 ≤ c ∧ c ≤ 9223372036854775807) ∧ (-9223372036854775808 ≤ s ∧ s ≤ 9223372036854775807)
def LaterAt (_w : World) (v : Value) : Prop := ∃ (n u b : Int), v = .agg #[.int .u32 n, .int .u32 u, .int .u64 b] ∧ (0 ≤ n ∧ n < 4294967296) ∧ (0 ≤ u ∧ u < 4294967296) ∧ U64C b
section
variable {H : Type} {enc : TypeId × Value → H} {W : World} {base : Nat} {v : Value} {d : DataW H} {p : List MemPlace}
theorem tu_part {n : Nat} {c0 c1 c2 c3 c4 : Value} {y : DataW H × List MemPlace} (h : DataW.trod enc Tryd.prog W 0 (fun _ => true) true n 26 [c0, c1, c2, c3, c4] = some y) :
    ∃ t : Tu, [c0, c1, c2, c3, c4] = [.int .u8 t.pr, .int .u32 t.sr, .int .u32 t.ds, .int .u16 t.sp, .int .u16 t.dp] ∧ TuNum t := by
  obtain ⟨m, hh⟩ := one_parts Tryd.underlying26 (by kernel_rfl) h
  obtain ⟨_, h0⟩ : ∃ y, DataW.trod enc Tryd.prog W 0 (fun _ => true) true m 5 [c0] = some y := hh 0 _ _ rfl rfl
  obtain ⟨x0, e0, -, w0⟩ := DataW.trod_int Tryd.underlying5 h0
  simp at e0
  subst e0
  have b0 := bounds_u8 w0
  obtain ⟨_, h1⟩ : ∃ y, DataW.trod enc Tryd.prog W 0 (fun _ => true) true m 23 [c1] = some y := hh 1 _ _ rfl rfl
  obtain ⟨x1, e1, -, w1⟩ := DataW.trod_int Tryd.underlying23 h1
  simp at e1
  subst e1
  have b1 := bounds_u32 w1
  obtain ⟨_, h2⟩ : ∃ y, DataW.trod enc Tryd.prog W 0 (fun _ => true) true m 23 [c2] = some y := hh 2 _ _ rfl rfl
  obtain ⟨x2, e2, -, w2⟩ := DataW.trod_int Tryd.underlying23 h2
  simp at e2
  subst e2
  have b2 := bounds_u32 w2
  obtain ⟨_, h3⟩ : ∃ y, DataW.trod enc Tryd.prog W 0 (fun _ => true) true m 24 [c3] = some y := hh 3 _ _ rfl rfl
  obtain ⟨x3, e3, -, w3⟩ := DataW.trod_int Tryd.underlying24 h3
  simp at e3
  subst e3
  have b3 := bounds_u16 w3
  obtain ⟨_, h4⟩ : ∃ y, DataW.trod enc Tryd.prog W 0 (fun _ => true) true m 24 [c4] = some y := hh 4 _ _ rfl rfl
  obtain ⟨x4, e4, -, w4⟩ := DataW.trod_int Tryd.underlying24 h4
  simp at e4
  subst e4
  have b4 := bounds_u16 w4
  exact ⟨⟨x0, x1, x2, x3, x4⟩, rfl, ⟨by simp only; omega, by simp only; omega, by simp only; omega, by simp only; omega, by simp only; omega⟩⟩
theorem info_open (hv : Value.okWide Tryd.prog W .any base 30 v) (h : DataW.Trod enc Tryd.prog W 0 (fun _ => true) true 30 v d p) : InfoAt W v := by
  obtain ⟨cs, rfl, hsz⟩ := okWide_struct Tryd.underlying30 hv
  obtain ⟨l⟩ := cs
  have hC : Tryd.prog.cellsOf 30 = 3 := by kernel_rfl
  match l, hsz.trans hC with
  | [c0, c1, c2], _ =>
    obtain ⟨fuel, hf⟩ := h
    try simp only [Value.cells] at hf
    obtain ⟨m, hh⟩ := one_parts Tryd.underlying30 (by kernel_rfl) hf
    obtain ⟨_, h0⟩ : ∃ y, DataW.trod enc Tryd.prog W 0 (fun _ => true) true m 3 [c0] = some y := hh 0 _ _ rfl rfl
    obtain ⟨x0, e0, -, w0⟩ := DataW.trod_int Tryd.underlying3 h0
    simp at e0
    subst e0
    have b0 := bounds_i64 w0
    obtain ⟨_, h1⟩ : ∃ y, DataW.trod enc Tryd.prog W 0 (fun _ => true) true m 4 [c1] = some y := hh 1 _ _ rfl rfl
    obtain ⟨x1, e1, -⟩ := DataW.trod_bool Tryd.underlying4 h1
    simp at e1
    subst e1
    obtain ⟨_, h2⟩ : ∃ y, DataW.trod enc Tryd.prog W 0 (fun _ => true) true m 3 [c2] = some y := hh 2 _ _ rfl rfl
    obtain ⟨x2, e2, -, w2⟩ := DataW.trod_int Tryd.underlying3 h2
    simp at e2
    subst e2
    have b2 := bounds_i64 w2
    exact ⟨x0, x1, x2, rfl, by omega, by omega⟩
theorem later_open (hv : Value.okWide Tryd.prog W .any base 47 v) (h : DataW.Trod enc Tryd.prog W 0 (fun _ => true) true 47 v d p) : LaterAt W v := by
  obtain ⟨cs, rfl, hsz⟩ := okWide_struct Tryd.underlying47 hv
  obtain ⟨l⟩ := cs
  have hC : Tryd.prog.cellsOf 47 = 3 := by kernel_rfl
  match l, hsz.trans hC with
  | [c0, c1, c2], _ =>
    obtain ⟨fuel, hf⟩ := h
    try simp only [Value.cells] at hf
    obtain ⟨m, hh⟩ := one_parts Tryd.underlying47 (by kernel_rfl) hf
    obtain ⟨_, h0⟩ : ∃ y, DataW.trod enc Tryd.prog W 0 (fun _ => true) true m 23 [c0] = some y := hh 0 _ _ rfl rfl
    obtain ⟨x0, e0, -, w0⟩ := DataW.trod_int Tryd.underlying23 h0
    simp at e0
    subst e0
    have b0 := bounds_u32 w0
    obtain ⟨_, h1⟩ : ∃ y, DataW.trod enc Tryd.prog W 0 (fun _ => true) true m 23 [c1] = some y := hh 1 _ _ rfl rfl
    obtain ⟨x1, e1, -, w1⟩ := DataW.trod_int Tryd.underlying23 h1
    simp at e1
    subst e1
    have b1 := bounds_u32 w1
    obtain ⟨_, h2⟩ : ∃ y, DataW.trod enc Tryd.prog W 0 (fun _ => true) true m 22 [c2] = some y := hh 2 _ _ rfl rfl
    obtain ⟨x2, e2, -, w2⟩ := DataW.trod_int Tryd.underlying22 h2
    simp at e2
    subst e2
    have b2 := bounds_u64 w2
    exact ⟨x0, x1, x2, rfl, by omega, by omega, by unfold U64C; omega⟩
theorem shake_open (hv : Value.okWide Tryd.prog W .any base 28 v) (h : DataW.Trod enc Tryd.prog W 0 (fun _ => true) true 28 v d p) : ShakeAt W v := by
  obtain ⟨cs, rfl, hsz⟩ := okWide_struct Tryd.underlying28 hv
  obtain ⟨l⟩ := cs
  have hC : Tryd.prog.cellsOf 28 = 8 := by kernel_rfl
  have k64 : Tryd.prog.cellsOf 22 = 1 := by kernel_rfl
  have k32 : Tryd.prog.cellsOf 23 = 1 := by kernel_rfl
  have k5 : Tryd.prog.cellsOf 26 = 5 := by kernel_rfl
  match l, hsz.trans hC with
  | [c0, c1, c2, c3, c4, c5, c6, c7], _ =>
    obtain ⟨fuel, hf⟩ := h
    try simp only [Value.cells] at hf
    obtain ⟨m, hm⟩ := multi_parts Tryd.underlying28 hf
    obtain ⟨_, h0⟩ : ∃ y, DataW.trod enc Tryd.prog W 0 (fun _ => true) true m 22 ((List.drop 0 [c0, c1, c2, c3, c4, c5, c6, c7]).take (Tryd.prog.cellsOf 22)) = some y := hm 0 _ rfl
    obtain ⟨_, hT⟩ : ∃ y, DataW.trod enc Tryd.prog W 0 (fun _ => true) true m 26 ((List.drop 1 [c0, c1, c2, c3, c4, c5, c6, c7]).take (Tryd.prog.cellsOf 26)) = some y := hm 1 _ rfl
    obtain ⟨_, h6⟩ : ∃ y, DataW.trod enc Tryd.prog W 0 (fun _ => true) true m 23 ((List.drop 6 [c0, c1, c2, c3, c4, c5, c6, c7]).take (Tryd.prog.cellsOf 23)) = some y := hm 2 _ rfl
    obtain ⟨_, h7⟩ : ∃ y, DataW.trod enc Tryd.prog W 0 (fun _ => true) true m 22 ((List.drop 7 [c0, c1, c2, c3, c4, c5, c6, c7]).take (Tryd.prog.cellsOf 22)) = some y := hm 3 _ rfl
    clear hf hm hv hsz
    rw [k64] at h0 h7
    rw [k32] at h6
    rw [k5] at hT
    obtain ⟨x0, e0, -, w0⟩ := DataW.trod_int Tryd.underlying22 h0
    obtain ⟨x6, e6, -, w6⟩ := DataW.trod_int Tryd.underlying23 h6
    obtain ⟨x7, e7, -, w7⟩ := DataW.trod_int Tryd.underlying22 h7
    obtain ⟨t, eT, hn⟩ := tu_part hT
    simp at e0 e6 e7
    simp only [List.cons.injEq, and_true] at eT
    obtain ⟨rfl, rfl, rfl, rfl, rfl⟩ := eT
    subst e0 e6 e7
    have b0 := bounds_u64 w0
    have b6 := bounds_u32 w6
    have b7 := bounds_u64 w7
    exact ⟨x0, t, x6, x7, rfl, by unfold U64C; omega, hn, by omega, by unfold U64C; omega⟩
end
end Go.Proofs.YtgcliijngaohdaaDoor
