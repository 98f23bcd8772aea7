/-
  A builtin's call whose run is known, at an operation of a walk (plain, or a step of a region that draws its order). No function of the program.
-/
import Derived.Test.YtnhlbohdlnjaaaaSlRun
namespace Go.Proofs.Ytnhlbohdlnjaaaa
set_option maxRecDepth 10000
open Go.RowKit
set_option linter.unusedSimpArgs false
set_option linter.unusedVariables false
section
variable {P : Program} {ops : Array Oper} {rest : List Oper} {o : Oper} {a : Act} {w : World} {Q : Exit → Act → World → Prop} {K : Act → World → Prop} {E : Prop}
theorem wpList_bi2 (hgd : o.guard = none) (b : Builtin) (f : Array TypeId → TypeId → Array Value → Sem Value) (hb : ∀ ats ty cs args, builtin b ats ty cs args = (do pure (.value (← f ats ty args)))) (s x : Operand) (ats : Array TypeId) (ty : TypeId)
    (ho : o.op = .call { callee := .builtin b, args := #[s, x], argTypes := ats }) (hty : o.type = ty) (v v2 v' : Value) (w' : World) (hs : a.eval s = v) (hx : a.eval x = v2)
    (hrun : (f ats ty #[v, v2]).run P w = .ok v' w') (hk : wpList P ops Q rest (a.put o.dst v') w') : wpList P ops Q (o :: rest) a w := by
  refine wpList_plain hgd fun K hK => ?_
  subst hty
  unfold Oper.wp execOp
  simp only [ho, resolve, invoke, hb, Sem.run_bind, Sem.run_pure, Result.andThen_ok, List.map_toArray, List.map_cons, List.map_nil, hs, hx, hrun]
  exact hK _ _ hk
theorem wpList_bi1 (hgd : o.guard = none) (b : Builtin) (f : Array TypeId → TypeId → Array Value → Sem Value) (hb : ∀ ats ty cs args, builtin b ats ty cs args = (do pure (.value (← f ats ty args)))) (s : Operand) (ats : Array TypeId) (ty : TypeId)
    (ho : o.op = .call { callee := .builtin b, args := #[s], argTypes := ats }) (hty : o.type = ty) (v v' : Value) (w' : World) (hs : a.eval s = v)
    (hrun : (f ats ty #[v]).run P w = .ok v' w') (hk : wpList P ops Q rest (a.put o.dst v') w') : wpList P ops Q (o :: rest) a w := by
  refine wpList_plain hgd fun K hK => ?_
  subst hty
  unfold Oper.wp execOp
  simp only [ho, resolve, invoke, hb, Sem.run_bind, Sem.run_pure, Result.andThen_ok, List.map_toArray, List.map_cons, List.map_nil, hs, hrun]
  exact hK _ _ hk
theorem step_bi2 (hgd : o.guard = none) (b : Builtin) (f : Array TypeId → TypeId → Array Value → Sem Value) (hb : ∀ ats ty cs args, builtin b ats ty cs args = (do pure (.value (← f ats ty args)))) (s x : Operand) (ats : Array TypeId) (ty : TypeId)
    (ho : o.op = .call { callee := .builtin b, args := #[s, x], argTypes := ats }) (hty : o.type = ty) (v v2 v' : Value) (w' : World) (hs : a.eval s = v) (hx : a.eval x = v2)
    (hrun : (f ats ty #[v, v2]).run P w = .ok v' w') (hk : K (a.put o.dst v') w') : if Region.wanted o (yielded ops a.tmps) = true then Oper.wp P o a w K Q else E := by
  have hw : Region.wanted o (yielded ops a.tmps) = true := by simp [Region.wanted, hgd]
  rw [if_pos hw]
  subst hty
  unfold Oper.wp execOp
  simp only [ho, resolve, invoke, hb, Sem.run_bind, Sem.run_pure, Result.andThen_ok, List.map_toArray, List.map_cons, List.map_nil, hs, hx, hrun]
  exact hk
end
end Go.Proofs.Ytnhlbohdlnjaaaa
