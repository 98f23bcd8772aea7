/-
  The program's own wheel over the face of a wheel: what each of its calls does.
-/
import Derived.Test.YtlpgabbnldalhaaWhlTick
import Derived.Test.YtlpgabbnldalhaaWhlCopy
import Derived.Test.YtlpgabbnldalhaaWhlSet
namespace Go.Proofs.Ytlpgabbnldalhaa
set_option maxRecDepth 10000
open Go.RowKit
set_option linter.unusedSimpArgs false
set_option linter.unusedVariables false

def idsOf (L : AL) : Int → Prop := fun e => ∃ a, a ∈ L ∧ a.1 = e
/-- The wheel in block g, in the blocks S, with this clock and these alarms. -/
def WAtP : WA := fun w S g ck L => ∃ m C hs R, WMem w S g m C hs ck (fun j => slotL j L) (idsOf L) R ∧ (∀ a, a ∈ L → R a.1 = .int .u64 a.2) ∧ okW L ∧ (0 ≤ ck ∧ ck ≤ bigW) ∧ ∀ a, a ∈ L → 0 ≤ a.2 ∧ a.2 ≤ bigW
theorem just_does {S : Nat → Prop} {g : Nat} {ck : Int} {L : AL} {v : Value} {w : World} {e : Ending} {w' : World} (h : WAtP w S g ck L) (hj : JustIs v w e w') : WDoes WAtP S g ck L v w e w' := by
  obtain ⟨rfl, rfl⟩ := hj
  exact ⟨rfl, S, h, But.refl _ _, fun k hk => .inl hk⟩
theorem just_quiet {v : Value} {w : World} {e : Ending} {w' : World} (hj : JustIs v w e w') : QuietW v w e w' := by
  obtain ⟨rfl, rfl⟩ := hj
  exact ⟨rfl, 0, rfl⟩
theorem WAtP.cell0 {w : World} {S : Nat → Prop} {g : Nat} {ck : Int} {L : AL} (h : WAtP w S g ck L) : w.cell? ⟨g, 0, none⟩ = some (.pointer (some ⟨g, 0, none⟩)) := by
  obtain ⟨m, C, hs, R, hM, _⟩ := h
  exact hM.k0
/-- Behind takeDown: the alarm of that id is no more. -/
def Gone (S : Nat → Prop) (g : Nat) (ck id : Int) (L : AL) (w w1 : World) : Prop := ∃ S1, WAtP w1 S1 g ck (stopW id L) ∧ But S w w1 ∧ ∀ k, S1 k → S k ∨ w.heap.size ≤ k
theorem ids_at {L : AL} {id : Int} : idsOf L id ↔ atW id L ≠ none := by
  rw [Ne, at_none]
  constructor
  · rintro ⟨a, ha, e⟩ h; exact h a ha e
  · intro h
    by_cases hx : idsOf L id
    · exact hx
    · exact absurd (fun a ha e => hx ⟨a, ha, e⟩) h
theorem take_face (S : Nat → Prop) (g : Nat) (ck id : Int) (L : AL) (b : Bool) (w : World) (h : WAtP w S g ck L) (hn : L.length ≤ 1000000) (hb : decide (atW id L ≠ none) = b) :
    Calls Try.prog 26 #[.pointer (some ⟨g, 0, none⟩), .int .u64 id] w (RetP (.bool b) (Gone S g ck id L w)) := by
  have h' := h
  obtain ⟨m, C, hs, R, hM, hR, hok, hck, hat⟩ := h
  by_cases hK : idsOf L id
  · obtain rfl : b = true := by rw [← hb]; exact decide_eq_true (ids_at.1 hK)
    obtain ⟨⟨i, at_⟩, ha, rfl⟩ := hK
    have hj : slotA (i, at_) < 64 := slotA_lt _
    have hs64 := slotA_iff.1 (rfl : slotA (i, at_) = slotA (i, at_))
    refine (take_yes S g m C hs ck i at_ (fun j => slotL j L) (idsOf L) R w hM ⟨(i, at_), ha, rfl⟩ (hR _ ha) (hat _ ha).1 (slotA (i, at_)) rfl (hok.slot _).sort (mem_slot.2 ⟨ha, hs64⟩) (Nat.le_trans (slotL_le _ _) hn)).mono ?_
    rintro e w1 ⟨rfl, S1, C1, hs1, hM1, hB1, hS1⟩
    rw [erase_slot hok ha rfl] at hM1
    refine ⟨rfl, S1, ⟨m, C1, hs1, R, hM1.keys (fun e => ?_) (fun _ _ => rfl), fun a ha' => hR a (mem_stop.1 ha').1, hok.stop i, hck, fun a ha' => hat a (mem_stop.1 ha').1⟩, hB1, hS1⟩
    constructor
    · rintro ⟨h1, a, h2, rfl⟩; exact ⟨a, mem_stop.2 ⟨h2, h1⟩, rfl⟩
    · rintro ⟨a, h1, rfl⟩; exact ⟨(mem_stop.1 h1).2, a, (mem_stop.1 h1).1, rfl⟩
  · obtain rfl : b = false := by rw [← hb]; exact decide_eq_false (fun e => hK (ids_at.2 e))
    refine (take_no S g m C hs ck id (fun j => slotL j L) (idsOf L) R w hM hK).mono ?_
    rintro e w1 ⟨rfl, rfl⟩
    have e1 : stopW id L = L := stop_self (fun a ha e => hK ⟨a, ha, e⟩)
    exact ⟨rfl, S, by rw [e1]; exact h', But.refl _ _, fun k hk => .inl hk⟩
def Is (S : Nat → Prop) (g : Nat) (ck : Int) (L : AL) (w w1 : World) : Prop := ∃ S1, WAtP w1 S1 g ck L ∧ But S w w1 ∧ ∀ k, S1 k → S k ∨ w.heap.size ≤ k
theorem hang_face (S : Nat → Prop) (g : Nat) (ck id at_ : Int) (L : AL) (w w1 : World) (h : Gone S g ck id L w w1) (hn : L.length ≤ 1000000) (ha : 0 ≤ at_) (hb : ¬ bigW < at_) :
    Calls Try.prog 27 #[.pointer (some ⟨g, 0, none⟩), .agg #[.int .u64 at_, .int .u64 id]] w1 (RetP (.tuple #[]) (Is S g ck (setW id at_ L) w)) := by
  obtain ⟨S1, ⟨m, C, hs, R, hM, hR, hok, hck, hat⟩, hB1, hS1⟩ := h
  refine (hang_any S1 g m C hs ck (id, at_) (fun j => slotL j (stopW id L)) (idsOf (stopW id L)) R w1 hM ha (slotA (id, at_)) rfl (hok.slot _).sort (Nat.le_trans (slotL_le _ _) (Nat.le_trans (stopW_le _ _) hn))).mono ?_
  rintro e w2 ⟨rfl, S2, C2, hs2, hM2, hB2, hS2⟩
  have hno : ∀ b, b ∈ stopW id L → b.1 ≠ id := fun b hb => (mem_stop.1 hb).2
  rw [ins_slot hok (a := (id, at_)) hno rfl] at hM2
  have es : setW id at_ (stopW id L) = setW id at_ L := set_stop id at_
  simp only [es] at hM2
  have hok2 : okW (setW id at_ L) := by rw [← es]; exact hok.set id at_
  have hsz1 := hB1.size
  refine ⟨rfl, S2, ⟨m, C2, hs2, _, hM2.keys (K' := idsOf (setW id at_ L)) (fun e => ?_) (fun _ _ => rfl), fun a ha' => ?_, hok2, hck, fun a ha' => ?_⟩, hB1.trans2 hB2 (fun k hk h2 => ?_), fun k hk => ?_⟩
  · constructor
    · rintro (h0 | ⟨a, h1, rfl⟩)
      · exact ⟨(id, at_), mem_set.2 (.inl rfl), h0.symm⟩
      · exact ⟨a, mem_set.2 (.inr ⟨(mem_stop.1 h1).1, (mem_stop.1 h1).2⟩), rfl⟩
    · rintro ⟨a, h1, rfl⟩
      rcases mem_set.1 h1 with rfl | ⟨h2, h3⟩
      · exact .inl rfl
      · exact .inr ⟨a, mem_stop.2 ⟨h2, h3⟩, rfl⟩
  · rcases mem_set.1 ha' with rfl | ⟨h2, h3⟩
    · exact if_pos rfl
    · show (if a.1 = id then Value.int .u64 at_ else R a.1) = _
      rw [if_neg h3]
      exact hR a (mem_stop.2 ⟨h2, h3⟩)
  · rcases mem_set.1 ha' with rfl | ⟨h2, h3⟩
    · exact ⟨ha, by show at_ ≤ bigW; omega⟩
    · exact hat a (mem_stop.2 ⟨h2, h3⟩)
  · rcases hS1 k h2 with h3 | h3
    · exact h3
    · omega
  · rcases hS2 k hk with h3 | h3
    · exact hS1 k h3
    · exact .inr (by omega)
theorem tick_bad (g : Nat) (ck now : Int) (w : World) (h0 : w.cell? ⟨g, 0, none⟩ = some (.pointer (some ⟨g, 0, none⟩))) (h1 : w.cell? ⟨g, 1, none⟩ = some (.int .u64 ck)) (hb : badT ck now = true) :
    Calls Try.prog 13 #[.pointer (some ⟨g, 0, none⟩), .int .u64 now] w (JustIs (.tuple #[.slice none 0 0, .int .i64 1]) w) := by
  have Hno := Lib.hid (wnone_no g w h0)
  have hb2 := of_decide_eq_true hb
  by_cases hx : now < ck
  · have hd1 : decide (now < ck) = true := decide_eq_true hx
    clear hb hb2 h0
    go_enter Try.func13, Try.ntmps13
    go_wp2_with fail
    refine Hno.out.mono ?_
    rintro e w1 ⟨rfl, rfl⟩
    go_wp2_with fail
    go_ret2
    exact ⟨rfl, rfl⟩
  · have hd1 : decide (now < ck) = false := decide_eq_false hx
    have hd2 : decide (1099511627776 < now) = true := decide_eq_true (by rcases hb2 with h | h; exact absurd h hx; exact h)
    clear hb hb2 h0 hx
    go_enter Try.func13, Try.ntmps13
    go_wp2_with fail
    refine Hno.out.mono ?_
    rintro e w1 ⟨rfl, rfl⟩
    go_wp2_with fail
    go_ret2
    exact ⟨rfl, rfl⟩
theorem cat_due {L : AL} (h : okW L) (now : Int) : (catW (fun j => dueW now (slotL j L)) 64).Perm (dueW now L) := by
  have e : (fun j => dueW now (slotL j L)) = fun j => slotL j (dueW now L) := by
    funext j
    exact due_slot h.sort j now
  rw [e]
  exact cat_all _
theorem len_ids {L : AL} (h : okW L) : ∀ e, idsOf L e ↔ e ∈ L.map Prod.fst := by
  intro e
  rw [List.mem_map]
  exact Iff.rfl
theorem face : WFace WAtP where
  but := by
    rintro w w' S T g ck L ⟨m, C, hs, R, hM, hr⟩ hB hT
    exact ⟨m, C, hs, R, hM.but hB hT, hr⟩
  lt := by
    rintro w S g ck L ⟨m, C, hs, R, hM, hr⟩
    exact hM.lt
  ok := by
    rintro w S g ck L ⟨m, C, hs, R, hM, hR, hok, hck, hat⟩
    exact ⟨hok, hck.1, hck.2⟩
  new_ := by
    intro w
    refine (new_mem w).mono ?_
    rintro e w' ⟨g, m, C, S, rfl, hM, hB, hS⟩
    refine ⟨g, S, rfl, ⟨m, C, _, _, hM.keys (K' := idsOf []) (fun e => ⟨fun x => x.elim, fun ⟨a, ha, _⟩ => by cases ha⟩) (fun _ _ => rfl), fun a ha => (by cases ha), .nil, ⟨by omega, by unfold bigW; omega⟩, fun a ha => (by cases ha)⟩, hB, hS⟩
  set_ := by
    intro S g ck id at_ L w h hn hid hat
    unfold setE setA
    by_cases hb : bigW < at_
    · rw [if_pos hb, if_pos hb]
      exact (set_bad g id at_ w h.cell0 hb).mono (fun e w' hj => just_does h hj)
    · rw [if_neg hb, if_neg hb]
      refine (set_good g id at_ (Gone S g ck id L w) (Is S g ck (setW id at_ L) w) w h.cell0 hb ((take_face S g ck id L _ w h hn rfl).mono (fun e w1 ⟨h1, h2⟩ => ⟨_, h1, h2⟩)) (fun w1 h1 => hang_face S g ck id at_ L w w1 h1 hn hat.1 hb)).mono ?_
      rintro e w' ⟨rfl, S1, h1, h2, h3⟩
      exact ⟨rfl, S1, h1, h2, h3⟩
  stop_ := by
    intro S g ck id L w h hn hid
    obtain ⟨hok, _⟩ := (show okW L ∧ True from by obtain ⟨m, C, hs, R, hM, hR, hok, hck, hat⟩ := h; exact ⟨hok, trivial⟩)
    obtain ⟨b, eb⟩ : ∃ b, decide (atW id L ≠ none) = b := ⟨_, rfl⟩
    refine (stop_walk g id (stopE id L) b (Gone S g ck id L w) w h.cell0 ?_ (take_face S g ck id L b w h hn eb)).mono ?_
    · unfold stopE
      cases b with
      | true =>
        have h1 := of_decide_eq_true eb
        rw [if_pos rfl, if_neg (fun e => h1 ((stop_len hok).1 e))]
      | false =>
        have h1 := of_decide_eq_false eb
        rw [if_neg (by decide), if_pos ((stop_len hok).2 (Decidable.not_not.1 h1))]
    · rintro e w' ⟨rfl, S1, h1, h2, h3⟩
      exact ⟨rfl, S1, h1, h2, h3⟩
  at_ := by
    intro S g ck id L w h hn hid
    have h' := h
    obtain ⟨m, C, hs, R, hM, hR, hok, hck, hat⟩ := h
    unfold atV
    cases ha : atW id L with
    | none => exact (at_no S g m C hs ck _ (idsOf L) R w hM id (fun x => ids_at.1 x ha)).mono (fun e w' hj => just_does h' hj)
    | some a =>
      obtain ⟨e1, hm⟩ := at_some ha
      subst e1
      exact (at_yes S g m C hs ck _ (idsOf L) R w hM a.1 a.2 ⟨a, hm, rfl⟩ (hR a hm)).mono (fun e w' hj => just_does h' hj)
  next_ := by
    intro S g ck L w h hn
    have h' := h
    obtain ⟨m, C, hs, R, hM, hR, hok, hck, hat⟩ := h
    cases L with
    | nil => exact (next_none S g m C hs ck _ (idsOf []) R w hM (fun e ⟨a, ha, _⟩ => by cases ha)).mono (fun e w' hj => just_does h' hj)
    | cons a L => exact (next_some S g m C hs ck _ (idsOf (a :: L)) R w hM ((a :: L).map Prod.fst) hok.ids (len_ids hok) (by simp) a.2 (least_first hok (fun b hb => (hat b hb).2))).mono (fun e w' hj => just_does h' hj)
  now_ := by
    rintro S g ck L w ⟨m, C, hs, R, hM, hr⟩
    exact (now_just S g m C hs ck _ (idsOf L) R w hM).mono (fun e w' hj => just_quiet hj)
  len_ := by
    rintro S g ck L w ⟨m, C, hs, R, hM, hR, hok, hr⟩ hn
    have := len_just S g m C hs ck _ (idsOf L) R w hM (L.map Prod.fst) hok.ids (len_ids hok)
    rw [List.length_map] at this
    exact this.mono (fun e w' hj => just_quiet hj)
  tick_ := by
    intro S g ck now L w h hn hnow
    have h' := h
    obtain ⟨m, C, hs, R, hM, hR, hok, hck, hat⟩ := h
    unfold tickE tickC tickL tickA
    by_cases hb : badT ck now = true
    · rw [if_pos hb, if_pos hb, if_pos hb, if_pos hb]
      refine (tick_bad g ck now w hM.k0 hM.k1 hb).mono ?_
      rintro e w' ⟨rfl, rfl⟩
      exact ⟨.slice none 0 0, rfl, Sl.nil _ _ _, S, h', But.refl _ _, fun k hk => .inl hk, fun b hb => by cases hb⟩
    · rw [if_neg hb, if_neg hb, if_neg hb, if_neg hb]
      have hb2 : ck ≤ now ∧ now ≤ bigW := by
        have h1 : ¬ (now < ck ∨ bigW < now) := fun e => hb (decide_eq_true e)
        omega
      have hpd := cat_due hok now
      refine (tick_walk S g m C hs ck _ (idsOf L) R w now hM hb2 (fun j => Nat.le_trans (slotL_le _ _) hn) (fun M hp => ?_)).mono ?_
      · have hp2 := hp.trans hpd
        refine ⟨fun a ha => ⟨a, (List.takeWhile_sublist _).subset (hp2.mem_iff.1 ha), rfl⟩, ((hp2.map Prod.fst).nodup_iff).2 (hok.due now).ids, ?_⟩
        rw [hp2.length_eq]
        exact Nat.le_trans (dueW_le _ _) hn
      · rintro e w' ⟨v, M, C', hs', rfl, hp, hsrt, hl, hvo, hM2, hB⟩
        obtain rfl : M = dueW now L := sorted_one (hok.due now) (hp.trans hpd) hsrt
        have e1 : (fun j => leftW now (slotL j L)) = fun j => slotL j (leftW now L) := by
          funext j
          exact left_slot hok.sort j now
        rw [e1] at hM2
        refine ⟨v, rfl, hl, S, ⟨m, C', hs', R, hM2.keys (K' := idsOf (leftW now L)) (fun e => ?_) (fun _ _ => rfl), fun a ha => hR a ((List.dropWhile_sublist _).subset ha), hok.left now, ⟨by omega, hb2.2⟩, fun a ha => hat a ((List.dropWhile_sublist _).subset ha)⟩, hB, fun k hk => .inl hk, fun b hb => ⟨hvo b hb, fun hs => by have := hM.lt b hs; have := hvo b hb; omega⟩⟩
        constructor
        · rintro ⟨⟨a, ha, rfl⟩, hno⟩
          refine ⟨a, ?_, rfl⟩
          have h1 := due_left now L
          rw [← h1] at ha
          rcases List.mem_append.1 ha with h2 | h2
          · exact absurd (List.mem_map.2 ⟨a, h2, rfl⟩) hno
          · exact h2
        · rintro ⟨a, ha, rfl⟩
          have haL := (List.dropWhile_sublist _).subset ha
          refine ⟨⟨a, haL, rfl⟩, fun hm => ?_⟩
          obtain ⟨b, hb', e2⟩ := List.mem_map.1 hm
          have hbL := (List.takeWhile_sublist _).subset hb'
          have := id_one hok hbL haL e2
          subst this
          have h3 := ((mem_due hok.sort).1 hb').2
          have h4 := ((mem_left hok.sort).1 ha).2
          omega
  copy_ := by
    rintro S g ck L w ⟨m, C, hs, R, hM, hr⟩ hn
    refine (copy_mem S g m C hs ck _ (idsOf L) R w hM (fun j => Nat.le_trans (slotL_le _ _) hn)).mono ?_
    rintro e w' ⟨g2, m2, C2, hs2, S2, rfl, h1, h2, hB, hS2⟩
    exact ⟨g2, S, S2, rfl, ⟨m, C, hs, R, h1, hr⟩, ⟨m2, C2, hs2, R, h2, hr⟩, But.of hB, fun k hk => .inl hk, hS2, fun k hk hk2 => by have := hM.lt k hk; have := hS2 k hk2; omega⟩
end Go.Proofs.Ytlpgabbnldalhaa
