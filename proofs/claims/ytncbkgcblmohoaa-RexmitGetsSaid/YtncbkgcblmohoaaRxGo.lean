/-
  The program's buffer keeps the face.
-/
import Derived.Test.YtncbkgcblmohoaaRxSendG
import Derived.Test.YtncbkgcblmohoaaRxTickG
import Derived.Test.YtncbkgcblmohoaaRxAckG
namespace Go.Proofs.Ytncbkgcblmohoaa
set_option maxRecDepth 10000
open Go.RowKit
set_option linter.unusedSimpArgs false
set_option linter.unusedVariables false

theorem just_does {f : Nat} {args : Array Value} {w : World} {S : Nat → Prop} {g : Nat} {s : XS} {v : Value} (h : XmAt w S g s) (hc : Calls Try.prog f args w (JustB v w)) : Calls Try.prog f args w (XDoes XmAt S g s v w) := by
  refine hc.mono ?_
  rintro e w' ⟨rfl, rfl⟩
  exact ⟨rfl, S, h, But.refl _ _, fun k hk => .inl hk⟩
theorem rexmitFace : XFace XmAt where
  but := fun ⟨A, c, wt, ct, al, h⟩ hb hd => ⟨A, c, wt, ct, al, h.but hb hd⟩
  lt := fun ⟨_, _, _, _, _, h⟩ => h.lt
  ok := fun ⟨_, _, _, _, _, h⟩ => h.ok
  new_bad := fun at_ win rto tries w _ _ _ _ h => new_badX at_ win rto tries w h
  new_ok := fun at_ win rto tries w ha hw h => new_okG at_ win rto tries w ha hw h
  write_ := fun S g s now A n c l w ⟨_, _, _, _, _, h⟩ hn hr hnc _ _ hA => write_mem h A n c l hr now hn hnc hA
  send_ := fun S g s mss w ⟨_, _, _, _, _, h⟩ _ => send_mem h mss
  ack_ := fun S g s ack win now w ⟨_, _, _, _, _, h⟩ ha hw hn => ack_mem h ack win now ha hw hn
  tick_ := fun S g s mss now w ⟨_, _, _, _, _, h⟩ _ hn => tick_mem h mss now hn
  una_ := fun S g s w h => just_does h (by obtain ⟨_, _, _, _, _, h⟩ := h; exact xuna_mem h)
  nxt_ := fun S g s w h => just_does h (by obtain ⟨_, _, _, _, _, h⟩ := h; exact xnxt_mem h)
  end_ := fun S g s w h => just_does h (by obtain ⟨_, _, _, _, _, h⟩ := h; exact xend_mem h)
  window_ := fun S g s w h => just_does h (by obtain ⟨_, _, _, _, _, h⟩ := h; exact xwin_mem h)
  alarm_ := fun S g s w h => just_does h (by obtain ⟨_, _, _, _, _, h⟩ := h; exact xalarm_mem h _ _ rfl rfl)
  copy_ := fun S g s w ⟨_, _, _, _, _, h⟩ => copy_memX h
end Go.Proofs.Ytncbkgcblmohoaa
