/-
  Texts laid together: InQ, SumNum, SumSum, SumAny.
-/
import Derived.Test.YtoegfgbalcholaaZD03
import Derived.Test.YtoegfgbalcholaaZD04
import Derived.Test.YtoegfgbalcholaaZD01
import Derived.Test.YtoegfgbalcholaaZD02
import Derived.OneCell
import Derived.Deep.LoopGhost
import Derived.LoopTactic
import Derived.Outline

/-
  What a quote says and becomes, in plain lists (stage 16, written ahead): nothing of the program.
-/
namespace Go.Proofs.Ytoegfgbalcholaa
set_option maxRecDepth 10000
set_option linter.unusedSimpArgs false
set_option linter.unusedVariables false

theorem getD_byteQ {l : List Int} (h : Bytes l) (i : Nat) : 0 ≤ l.getD i 0 ∧ l.getD i 0 < 256 := by
  by_cases hj : i < l.length
  · simp only [List.getD, List.getElem?_eq_getElem hj, Option.getD_some]
    exact h _ (List.getElem_mem hj)
  · simp [List.getD, List.getElem?_eq_none (by omega : l.length ≤ i)]
/-- A field follows a word. -/
def fldQ (c : List Int) (f : Nat) (was x : Int) : List Int := layL c f (wordF (wordL c f) was x)
/-- A word becomes another one, and the fields follow. -/
def chQ (fs : List Nat) (b : List Int) (k : Nat) (x : Int) : List Int := fs.foldl (fun c f => fldQ c f (wordL b k) x) (layL b k x)
/-- What may be changed: bytes, places that are there. -/
structure MayQ (fs : List Nat) (b : List Int) (k : Nat) (x : Int) : Prop where
  byte : Bytes b
  in_ : 2 * k + 1 < b.length
  u : U16 x
  fin : ∀ f ∈ fs, 2 * f + 1 < b.length ∧ f ≠ k
  nod : fs.Nodup
theorem fold_len (was x : Int) : ∀ (fs : List Nat) (c : List Int), (fs.foldl (fun c f => fldQ c f was x) c).length = c.length
  | [], _ => rfl
  | f :: fs, c => by rw [List.foldl_cons, fold_len was x fs]; exact layL_len _ _ _
theorem fold_byte {was x : Int} (hw : U16 was) (hx : U16 x) : ∀ (fs : List Nat) {c : List Int}, Bytes c → Bytes (fs.foldl (fun c f => fldQ c f was x) c)
  | [], _, h => h
  | f :: fs, c, h => by
    rw [List.foldl_cons]
    exact fold_byte hw hx fs (layL_byte h f (wordF_bd _ _ _ (wordL_bd h f) hw hx))
theorem fold_getD (was x : Int) : ∀ (fs : List Nat) (c : List Int) (i : Nat), i / 2 ∉ fs → (fs.foldl (fun c f => fldQ c f was x) c).getD i 0 = c.getD i 0
  | [], _, _, _ => rfl
  | f :: fs, c, i, h => by
    rw [List.foldl_cons, fold_getD was x fs _ i (fun hm => h (List.mem_cons_of_mem _ hm))]
    exact getD_lay _ _ _ _ (fun e => h (by rw [e]; exact List.mem_cons_self ..))
theorem fold_word (was x : Int) (fs : List Nat) (c : List Int) (j : Nat) (h : j ∉ fs) : wordL (fs.foldl (fun c f => fldQ c f was x) c) j = wordL c j := by
  unfold wordL
  rw [fold_getD was x fs c (2 * j) (by rwa [show 2 * j / 2 = j by omega]), fold_getD was x fs c (2 * j + 1) (by rwa [show (2 * j + 1) / 2 = j by omega])]
theorem fold_fld {was x : Int} : ∀ (fs : List Nat) (c : List Int) (f : Nat), f ∈ fs → fs.Nodup → (∀ g ∈ fs, 2 * g + 1 < c.length) → (wordL (fs.foldl (fun c f => fldQ c f was x) c) f) % 65535 = (wordL c f + was - x) % 65535
  | [], _, _, h, _, _ => by cases h
  | g :: fs, c, f, h, hn, hl => by
    rw [List.foldl_cons]
    obtain ⟨hg, hn'⟩ := List.nodup_cons.1 hn
    by_cases e : f = g
    · subst e
      rw [fold_word was x fs _ f hg]
      unfold fldQ
      rw [wordL_lay_same _ _ _ (hl f (List.mem_cons_self ..))]
      exact wordF_mod _ _ _
    · rcases List.mem_cons.1 h with h | h
      · exact absurd h e
      · rw [fold_fld fs _ f h hn' (fun k hk => by unfold fldQ; rw [layL_len]; exact hl k (List.mem_cons_of_mem _ hk))]
        unfold fldQ
        rw [wordL_lay_other _ _ _ _ (fun e2 => e e2.symm)]
theorem chQ_len (fs : List Nat) (b : List Int) (k : Nat) (x : Int) : (chQ fs b k x).length = b.length := by unfold chQ; rw [fold_len, layL_len]
theorem MayQ.bytes {fs : List Nat} {b : List Int} {k : Nat} {x : Int} (h : MayQ fs b k x) : Bytes (chQ fs b k x) := fold_byte (wordL_bd h.byte k) h.u fs (layL_byte h.byte k h.u)
theorem MayQ.far {fs : List Nat} {b : List Int} {k : Nat} {x : Int} (h : MayQ fs b k x) {i : Nat} (hi : i / 2 ∉ fs) (hk : i / 2 ≠ k) : (chQ fs b k x).getD i 0 = b.getD i 0 := by
  unfold chQ; rw [fold_getD _ _ _ _ _ hi, getD_lay _ _ _ _ hk]
theorem MayQ.same {fs : List Nat} {b : List Int} {k : Nat} {x : Int} (h : MayQ fs b k x) : wordL (chQ fs b k x) k = x := by
  unfold chQ; rw [fold_word _ _ _ _ _ (fun hm => (h.fin k hm).2 rfl), wordL_lay_same _ _ _ h.in_]
theorem MayQ.other {fs : List Nat} {b : List Int} {k : Nat} {x : Int} (h : MayQ fs b k x) {j : Nat} (hj : j ∉ fs) (hk : j ≠ k) : wordL (chQ fs b k x) j = wordL b j := by
  unfold chQ; rw [fold_word _ _ _ _ _ hj, wordL_lay_other _ _ _ _ (fun e => hk e.symm)]
theorem MayQ.fld {fs : List Nat} {b : List Int} {k : Nat} {x : Int} (h : MayQ fs b k x) {f : Nat} (hf : f ∈ fs) : wordL (chQ fs b k x) f % 65535 = (wordL b f + wordL b k - x) % 65535 := by
  unfold chQ
  rw [fold_fld fs _ f hf h.nod (fun g hg => by rw [layL_len]; exact (h.fin g hg).1), wordL_lay_other _ _ _ _ (fun e => (h.fin f hf).2 e.symm)]
/-- The word of the payload's field; where it is; what follows. -/
def qF (pr : Int) (H : Nat) : Nat := if pr = 6 then H + 8 else if pr = 17 then H + 3 else H + 1
def qH (b : List Int) : Nat := 2 * (b.getD 0 0 % 16).toNat
def partQ (b : List Int) : List Nat := if 2 * qF (b.getD 9 0) (qH b) + 2 ≤ b.length ∧ ¬ (b.getD 9 0 = 17 ∧ wordL b (qF (b.getD 9 0) (qH b)) = 0) then [qF (b.getD 9 0) (qH b)] else []
def bothQ (b : List Int) : List Nat := 5 :: (if b.getD 9 0 = 1 then [] else partQ b)
/-- What a quote says. -/
def qSeq (b : List Int) : Int := if b.getD 9 0 = 6 then wordL b (qH b + 2) * 65536 + wordL b (qH b + 3) else 0
def qTu (b : List Int) : Tu := ⟨b.getD 9 0, wordL b 6 * 65536 + wordL b 7, wordL b 8 * 65536 + wordL b 9, if b.getD 9 0 = 1 then wordL b (qH b + 2) else wordL b (qH b), if b.getD 9 0 = 1 then 0 else wordL b (qH b + 1)⟩
def errQ (b : List Int) : Int :=
  if b.length < 20 then 4
  else if b.getD 0 0 / 16 ≠ 4 ∨ qH b < 10 then 5
  else if b.length < 2 * qH b + 8 then 4
  else if wordL b 3 % 8192 ≠ 0 then 21
  else if b.getD 9 0 = 6 ∨ b.getD 9 0 = 17 then 0
  else if b.getD 9 0 = 1 ∧ echoM (b.getD (2 * qH b) 0) (b.getD (2 * qH b + 1) 0) = true then 0
  else 22
theorem errQ_ok {b : List Int} (h : errQ b = 0) : (b.getD 0 0 / 16 = 4 ∧ 10 ≤ qH b ∧ 2 * qH b + 8 ≤ b.length ∧ wordL b 3 % 8192 = 0) ∧ (b.getD 9 0 = 6 ∨ b.getD 9 0 = 17 ∨ (b.getD 9 0 = 1 ∧ echoM (b.getD (2 * qH b) 0) (b.getD (2 * qH b + 1) 0) = true)) := by
  unfold errQ at h
  by_cases h1 : b.length < 20
  · rw [if_pos h1] at h; omega
  rw [if_neg h1] at h
  by_cases h2 : b.getD 0 0 / 16 ≠ 4 ∨ qH b < 10
  · rw [if_pos h2] at h; omega
  rw [if_neg h2] at h
  by_cases h3 : b.length < 2 * qH b + 8
  · rw [if_pos h3] at h; omega
  rw [if_neg h3] at h
  by_cases h4 : wordL b 3 % 8192 ≠ 0
  · rw [if_pos h4] at h; omega
  rw [if_neg h4] at h
  refine ⟨by omega, ?_⟩
  by_cases h5 : b.getD 9 0 = 6 ∨ b.getD 9 0 = 17
  · rcases h5 with h5 | h5
    · exact .inl h5
    · exact .inr (.inl h5)
  rw [if_neg h5] at h
  by_cases h6 : b.getD 9 0 = 1 ∧ echoM (b.getD (2 * qH b) 0) (b.getD (2 * qH b + 1) 0) = true
  · exact .inr (.inr h6)
  · rw [if_neg h6] at h; omega
/-- The steps of a rewriting: which fields follow, which word, what it becomes. -/
def portsQ (b : List Int) (t : Tu) (s : Int) : List (Nat × Int) :=
  if b.getD 9 0 = 1 then [(qH b + 2, t.sp)] else [(qH b, t.sp), (qH b + 1, t.dp)] ++ (if b.getD 9 0 = 6 then [(qH b + 2, s / 65536), (qH b + 3, s % 65536)] else [])
def headQ (t : Tu) : List (Nat × Int) := [(6, t.sr / 65536), (7, t.sr % 65536), (8, t.ds / 65536), (9, t.ds % 65536)]
def runQ (fs : List Nat) (ks : List (Nat × Int)) (b : List Int) : List Int := ks.foldl (fun c p => chQ fs c p.1 p.2) b
def fixQ (b c : List Int) : List Int := if b.getD 9 0 ≠ 6 ∧ partQ b ≠ [] ∧ wordL c (qF (b.getD 9 0) (qH b)) = 0 then layL c (qF (b.getD 9 0) (qH b)) 65535 else c
def seqQ (b : List Int) (sh : Int) : Int := (qSeq b + sh) % 4294967296
def rwQ (b : List Int) (t : Tu) (sh : Int) : List Int := fixQ b (runQ (partQ b) (portsQ b t (seqQ b sh)) (runQ (bothQ b) (headQ t) b))
/-- A row of steps: what stays, what becomes, how the fields follow. -/
theorem runQ_spec (fs : List Nat) : ∀ (ks : List (Nat × Int)) (b : List Int), Bytes b → (∀ p ∈ ks, 2 * p.1 + 1 < b.length ∧ U16 p.2 ∧ p.1 ∉ fs) → fs.Nodup → (∀ f ∈ fs, 2 * f + 1 < b.length) → (ks.map (·.1)).Nodup →
    (runQ fs ks b).length = b.length ∧ Bytes (runQ fs ks b) ∧ (∀ i, i / 2 ∉ fs → (∀ p ∈ ks, p.1 ≠ i / 2) → (runQ fs ks b).getD i 0 = b.getD i 0) ∧ (∀ p ∈ ks, wordL (runQ fs ks b) p.1 = p.2) ∧
    (∀ f ∈ fs, wordL (runQ fs ks b) f % 65535 = (wordL b f + (ks.map (fun p => wordL b p.1 - p.2)).sum) % 65535)
  | [], b, hb, _, _, _, _ => ⟨rfl, hb, fun _ _ _ => rfl, fun p h => (by cases h), fun f _ => by simp [runQ]⟩
  | p :: ks, b, hb, hk, hn, hf, hd => by
    obtain ⟨h1, h2, h3⟩ := hk p (List.mem_cons_self ..)
    have hm : MayQ fs b p.1 p.2 := ⟨hb, h1, h2, fun f hf' => ⟨hf f hf', fun e => h3 (e ▸ hf')⟩, hn⟩
    rw [List.map_cons, List.nodup_cons] at hd
    obtain ⟨hd1, hd2⟩ := hd
    have hl := chQ_len fs b p.1 p.2
    obtain ⟨g1, g2, g3, g4, g5⟩ := runQ_spec fs ks (chQ fs b p.1 p.2) hm.bytes (fun q hq => by rw [hl]; exact hk q (List.mem_cons_of_mem _ hq)) hn (fun f hf' => by rw [hl]; exact hf f hf') hd2
    have hne : ∀ q ∈ ks, q.1 ≠ p.1 := fun q hq e => hd1 (List.mem_map.2 ⟨q, hq, e⟩)
    have hw : ∀ q ∈ ks, wordL (chQ fs b p.1 p.2) q.1 = wordL b q.1 := fun q hq => hm.other (hk q (List.mem_cons_of_mem _ hq)).2.2 (hne q hq)
    have e : runQ fs (p :: ks) b = runQ fs ks (chQ fs b p.1 p.2) := rfl
    rw [e]
    refine ⟨g1.trans hl, g2, fun i hi hp => ?_, fun q hq => ?_, fun f hf' => ?_⟩
    · rw [g3 i hi (fun q hq => hp q (List.mem_cons_of_mem _ hq))]
      exact hm.far hi (fun e => hp p (List.mem_cons_self ..) e.symm)
    · rcases List.mem_cons.1 hq with rfl | hq
      · have key : ∀ i, i / 2 = q.1 → (runQ fs ks (chQ fs b q.1 q.2)).getD i 0 = (chQ fs b q.1 q.2).getD i 0 := fun i hi => g3 i (by rw [hi]; exact h3) (fun r hr => by rw [hi]; exact hne r hr)
        have : wordL (runQ fs ks (chQ fs b q.1 q.2)) q.1 = wordL (chQ fs b q.1 q.2) q.1 := by unfold wordL; rw [key _ (by omega), key _ (by omega)]
        rw [this]; exact hm.same
      · exact g4 q hq
    · have hmap : ks.map (fun q => wordL (chQ fs b p.1 p.2) q.1 - q.2) = ks.map (fun q => wordL b q.1 - q.2) := List.map_congr_left (fun q hq => by rw [hw q hq])
      have := g5 f hf'
      have h0 := hm.fld hf'
      rw [hmap] at this
      rw [List.map_cons, List.sum_cons]
      omega
/-- The addresses' words, the ports' (and the number's). -/
def hsQ (c : List Int) : Int := wordL c 6 + wordL c 7 + wordL c 8 + wordL c 9
def psQ (pr : Int) (H : Nat) (c : List Int) : Int := if pr = 1 then wordL c (H + 2) else wordL c H + wordL c (H + 1) + (if pr = 6 then wordL c (H + 2) + wordL c (H + 3) else 0)
/-- What a rewriting is. -/
structure RwIs (b r : List Int) (t : Tu) (s : Int) : Prop where
  len : r.length = b.length
  byte : Bytes r
  far : ∀ i, i / 2 ≠ 5 → i / 2 ∉ partQ b → (∀ p ∈ headQ t ++ portsQ b t s, p.1 ≠ i / 2) → r.getD i 0 = b.getD i 0
  word : ∀ p ∈ headQ t ++ portsQ b t s, wordL r p.1 = p.2
  h : wordL r 5 % 65535 = (wordL b 5 + hsQ b - hsQ r) % 65535
  p : ∀ f ∈ partQ b, wordL r f % 65535 = (wordL b f + (if b.getD 9 0 = 1 then 0 else hsQ b - hsQ r) + (psQ (b.getD 9 0) (qH b) b - psQ (b.getD 9 0) (qH b) r)) % 65535
  z : b.getD 9 0 ≠ 6 → ∀ f ∈ partQ b, wordL r f ≠ 0
theorem part_cases (b : List Int) : (partQ b = [] ∨ (partQ b = [qF (b.getD 9 0) (qH b)] ∧ 2 * qF (b.getD 9 0) (qH b) + 2 ≤ b.length)) := by
  unfold partQ
  split
  · rename_i h; exact .inr ⟨rfl, h.1⟩
  · exact .inl rfl
theorem rwQ_is {b : List Int} {t : Tu} {sh : Int} (hb : Bytes b) (he : errQ b = 0) (ht : TuNum t) : RwIs b (rwQ b t sh) t (seqQ b sh) := by
  obtain ⟨⟨_, h10, hl, _⟩, hp⟩ := errQ_ok he
  obtain ⟨pr, epr⟩ : ∃ p, b.getD 9 0 = p := ⟨_, rfl⟩
  obtain ⟨H, eH⟩ : ∃ H, qH b = H := ⟨_, rfl⟩
  obtain ⟨s, es⟩ : ∃ s, seqQ b sh = s := ⟨_, rfl⟩
  have hs : 0 ≤ s ∧ s < 4294967296 := by rw [← es]; unfold seqQ; omega
  have hpr : pr = 6 ∨ pr = 17 ∨ pr = 1 := by rw [epr] at hp; rcases hp with h | h | h; exact .inl h; exact .inr (.inl h); exact .inr (.inr h.1)
  have hpc := part_cases b
  rw [epr, eH] at hpc
  have h1 := ht.sr; have h2 := ht.ds; have h3 := ht.sp; have h4 := ht.dp
  have hF : qF pr H ≠ H + 2 ∨ pr ≠ 1 := by by_cases h : pr = 1; left; unfold qF; rw [if_neg (by omega), if_neg (by omega)]; omega; exact .inr h
  have hFb : H + 1 ≤ qF pr H := by unfold qF; split; omega; split <;> omega
  have hF6 : pr ≠ 1 → H + 3 ≤ qF pr H := by intro h; unfold qF; split; omega; split <;> omega
  have hF7 : pr = 6 → qF pr H = H + 8 := by intro h; unfold qF; rw [if_pos h]
  have hfin : ∀ f ∈ partQ b, f = qF pr H ∧ 2 * f + 1 < b.length := by
    intro f hf
    rcases hpc with h | ⟨h, hh⟩
    · rw [h] at hf; cases hf
    · rw [h] at hf; rcases List.mem_singleton.1 hf; exact ⟨rfl, by omega⟩
  have hpn : (partQ b).Nodup := by rcases hpc with h | ⟨h, _⟩ <;> rw [h] <;> simp
  have hbm : ∀ f ∈ bothQ b, f = 5 ∨ (f ∈ partQ b ∧ pr ≠ 1) := by
    intro f hf
    unfold bothQ at hf
    rcases List.mem_cons.1 hf with h | h
    · exact .inl h
    · rw [epr] at h
      by_cases h9 : pr = 1
      · rw [if_pos h9] at h; cases h
      · rw [if_neg h9] at h; exact .inr ⟨h, h9⟩
  have hbn : (bothQ b).Nodup := by
    unfold bothQ
    rw [epr]
    by_cases h9 : pr = 1
    · rw [if_pos h9]; simp
    · rw [if_neg h9]
      exact List.nodup_cons.2 ⟨fun h => by have := (hfin 5 h).1; omega, hpn⟩
  obtain ⟨a1, a2, a3, a4, a5⟩ := runQ_spec (bothQ b) (headQ t) b hb (fun p hp => by
      have hin : p.1 = 6 ∨ p.1 = 7 ∨ p.1 = 8 ∨ p.1 = 9 := by unfold headQ at hp; simp only [List.mem_cons, List.not_mem_nil, or_false] at hp; rcases hp with rfl | rfl | rfl | rfl <;> simp
      refine ⟨by omega, ?_, fun hm => ?_⟩
      · unfold headQ at hp; simp only [List.mem_cons, List.not_mem_nil, or_false] at hp
        rcases hp with rfl | rfl | rfl | rfl <;> exact ⟨by simp only; omega, by simp only; omega⟩
      · rcases hbm _ hm with h | h
        · omega
        · have := (hfin _ h.1).1; omega) hbn (fun f hf => by
      rcases hbm f hf with h | h
      · omega
      · exact (hfin f h.1).2) (by unfold headQ; simp)
  obtain ⟨c, ec⟩ : ∃ c, runQ (bothQ b) (headQ t) b = c := ⟨_, rfl⟩
  rw [ec] at a1 a2 a3 a4 a5
  have hpk : ∀ p ∈ portsQ b t s, H ≤ p.1 ∧ p.1 ≤ H + 3 ∧ U16 p.2 ∧ p.1 ≠ qF pr H := by
    intro p hp
    unfold portsQ at hp
    rw [epr, eH] at hp
    by_cases h9 : pr = 1
    · rw [if_pos h9] at hp
      rcases List.mem_singleton.1 hp
      exact ⟨by simp only; omega, by simp only; omega, ⟨by simp only; omega, by simp only; omega⟩, by simp only; rcases hF with h | h; omega; omega⟩
    · rw [if_neg h9] at hp
      have := hF6 h9
      rcases List.mem_append.1 hp with hp | hp
      · simp only [List.mem_cons, List.not_mem_nil, or_false] at hp
        rcases hp with rfl | rfl
        · exact ⟨by simp only; omega, by simp only; omega, ⟨by simp only; omega, by simp only; omega⟩, by simp only; omega⟩
        · exact ⟨by simp only; omega, by simp only; omega, ⟨by simp only; omega, by simp only; omega⟩, by simp only; omega⟩
      · by_cases h6 : pr = 6
        · rw [if_pos h6] at hp
          have := hF7 h6
          simp only [List.mem_cons, List.not_mem_nil, or_false] at hp
          rcases hp with rfl | rfl
          · exact ⟨by simp only; omega, by simp only; omega, ⟨by simp only; omega, by simp only; omega⟩, by simp only; omega⟩
          · exact ⟨by simp only; omega, by simp only; omega, ⟨by simp only; omega, by simp only; omega⟩, by simp only; omega⟩
        · rw [if_neg h6] at hp; cases hp
  have hpd : ((portsQ b t s).map (·.1)).Nodup := by
    unfold portsQ
    rw [epr, eH]
    by_cases h9 : pr = 1
    · rw [if_pos h9]; simp
    · rw [if_neg h9]
      by_cases h6 : pr = 6
      · rw [if_pos h6]; simp
      · rw [if_neg h6]; simp
  obtain ⟨b1, b2, b3, b4, b5⟩ := runQ_spec (partQ b) (portsQ b t s) c a2 (fun p hp => by
      obtain ⟨g1, g2, g3, g4⟩ := hpk p hp
      exact ⟨by omega, g3, fun hm => g4 (hfin _ hm).1⟩) hpn (fun f hf => by rw [a1]; exact (hfin f hf).2) hpd
  obtain ⟨d, ed⟩ : ∃ d, runQ (partQ b) (portsQ b t s) c = d := ⟨_, rfl⟩
  rw [ed] at b1 b2 b3 b4 b5
  -- words of c and d
  have hcw : ∀ k, k ≠ 5 → k ∉ partQ b → (k < 6 ∨ 9 < k) → wordL c k = wordL b k := by
    intro k hk hkp hk2
    have key : ∀ i, i / 2 = k → c.getD i 0 = b.getD i 0 := fun i hi => a3 i (fun hm => by rcases hbm _ hm with h | h; omega; exact hkp (hi ▸ h.1)) (fun p hp => by
      have hin : p.1 = 6 ∨ p.1 = 7 ∨ p.1 = 8 ∨ p.1 = 9 := by unfold headQ at hp; simp only [List.mem_cons, List.not_mem_nil, or_false] at hp; rcases hp with rfl | rfl | rfl | rfl <;> simp
      omega)
    unfold wordL; rw [key _ (by omega), key _ (by omega)]
  have hdw : ∀ k, k ∉ partQ b → (∀ p ∈ portsQ b t s, p.1 ≠ k) → wordL d k = wordL c k := by
    intro k hkp hk2
    have key : ∀ i, i / 2 = k → d.getD i 0 = c.getD i 0 := fun i hi => b3 i (by rw [hi]; exact hkp) (fun p hp => by rw [hi]; exact hk2 p hp)
    unfold wordL; rw [key _ (by omega), key _ (by omega)]
  have hlow : ∀ k, k < 10 → wordL d k = wordL c k := fun k hk => hdw k (fun hm => by have := (hfin k hm).1; omega) (fun p hp => by have := (hpk p hp).1; omega)
  -- the sums of what is changed
  have hhs : ((headQ t).map (fun p => wordL b p.1 - p.2)).sum = hsQ b - hsQ d := by
    have e6 := a4 (6, t.sr / 65536) (by unfold headQ; simp)
    have e7 := a4 (7, t.sr % 65536) (by unfold headQ; simp)
    have e8 := a4 (8, t.ds / 65536) (by unfold headQ; simp)
    have e9 := a4 (9, t.ds % 65536) (by unfold headQ; simp)
    simp only at e6 e7 e8 e9
    unfold headQ hsQ
    rw [hlow 6 (by omega), hlow 7 (by omega), hlow 8 (by omega), hlow 9 (by omega), e6, e7, e8, e9]
    simp only [List.map_cons, List.map_nil, List.sum_cons, List.sum_nil]
    omega
  have hpcw : ∀ p ∈ portsQ b t s, wordL c p.1 = wordL b p.1 := fun p hp => by
    obtain ⟨g1, g2, g3, g4⟩ := hpk p hp
    exact hcw p.1 (by omega) (fun hm => g4 (hfin _ hm).1) (by omega)
  have hps : ((portsQ b t s).map (fun p => wordL c p.1 - p.2)).sum = psQ pr H b - psQ pr H d := by
    rw [List.map_congr_left (g := fun p => wordL b p.1 - wordL d p.1) (fun p hp => by rw [hpcw p hp, b4 p hp])]
    unfold portsQ psQ
    rw [epr, eH]
    by_cases h9 : pr = 1
    · rw [if_pos h9, if_pos h9, if_pos h9]
      simp only [List.map_cons, List.map_nil, List.sum_cons, List.sum_nil]
      omega
    · rw [if_neg h9, if_neg h9, if_neg h9]
      by_cases h6 : pr = 6
      · rw [if_pos h6, if_pos h6, if_pos h6]
        simp only [List.map_cons, List.map_nil, List.sum_cons, List.sum_nil, List.cons_append, List.nil_append]
        omega
      · rw [if_neg h6, if_neg h6, if_neg h6]
        simp only [List.map_cons, List.map_nil, List.sum_cons, List.sum_nil, List.cons_append, List.nil_append]
        omega
  have h5d : wordL d 5 % 65535 = (wordL b 5 + hsQ b - hsQ d) % 65535 := by
    rw [hlow 5 (by omega), a5 5 (by unfold bothQ; exact List.mem_cons_self ..), hhs]
    congr 1; omega
  have hpd2 : ∀ f ∈ partQ b, wordL d f % 65535 = (wordL b f + (if pr = 1 then 0 else hsQ b - hsQ d) + (psQ pr H b - psQ pr H d)) % 65535 := by
    intro f hf
    have e1 := b5 f hf
    rw [hps] at e1
    by_cases h9 : pr = 1
    · rw [if_pos h9]
      have : wordL c f = wordL b f := by
        have key : ∀ i, i / 2 = f → c.getD i 0 = b.getD i 0 := fun i hi => a3 i (fun hm => by rcases hbm _ hm with h | h; (have := (hfin f hf).1; omega); exact h.2 h9) (fun p hp => by
          have hin : p.1 = 6 ∨ p.1 = 7 ∨ p.1 = 8 ∨ p.1 = 9 := by unfold headQ at hp; simp only [List.mem_cons, List.not_mem_nil, or_false] at hp; rcases hp with rfl | rfl | rfl | rfl <;> simp
          have := (hfin f hf).1
          omega)
        unfold wordL; rw [key _ (by omega), key _ (by omega)]
      rw [this] at e1
      rw [e1]; congr 1; omega
    · rw [if_neg h9]
      have e2 := a5 f (by unfold bothQ; rw [epr, if_neg h9]; exact List.mem_cons_of_mem _ hf)
      rw [hhs] at e2
      omega
  have er : rwQ b t sh = fixQ b d := by unfold rwQ; rw [es, ec, ed]
  rw [er, es]
  have hfx : fixQ b d = d ∨ (fixQ b d = layL d (qF pr H) 65535 ∧ wordL d (qF pr H) = 0 ∧ partQ b = [qF pr H] ∧ 2 * qF pr H + 2 ≤ b.length) := by
    unfold fixQ
    rw [epr, eH]
    split
    · rename_i h
      refine .inr ⟨rfl, h.2.2, ?_⟩
      rcases hpc with h' | h'
      · exact absurd h' h.2.1
      · exact h'
    · exact .inl rfl
  have hz : pr ≠ 6 → ∀ f ∈ partQ b, wordL (fixQ b d) f ≠ 0 := by
    intro h6 f hf
    have hff := (hfin f hf).1
    unfold fixQ
    rw [epr, eH]
    by_cases hw : wordL d (qF pr H) = 0
    · rw [if_pos ⟨h6, List.ne_nil_of_mem hf, hw⟩, hff, wordL_lay_same _ _ _ (by rw [b1, a1, ← hff]; exact (hfin f hf).2)]
      omega
    · rw [if_neg (fun h => hw h.2.2), hff]; exact hw
  have hdp : ∀ p ∈ headQ t ++ portsQ b t s, wordL d p.1 = p.2 ∧ p.1 ≠ qF pr H := by
    intro p hp
    rcases List.mem_append.1 hp with hp | hp
    · have hin : p.1 = 6 ∨ p.1 = 7 ∨ p.1 = 8 ∨ p.1 = 9 := by unfold headQ at hp; simp only [List.mem_cons, List.not_mem_nil, or_false] at hp; rcases hp with rfl | rfl | rfl | rfl <;> simp
      exact ⟨by rw [hlow p.1 (by omega)]; exact a4 p hp, by omega⟩
    · exact ⟨b4 p hp, (hpk p hp).2.2.2⟩
  have hdfar : ∀ i, i / 2 ≠ 5 → i / 2 ∉ partQ b → (∀ p ∈ headQ t ++ portsQ b t s, p.1 ≠ i / 2) → d.getD i 0 = b.getD i 0 := fun i h5 hp hk => by
    rw [b3 i hp (fun p hp => hk p (List.mem_append_right _ hp)), a3 i (fun hm => by rcases hbm _ hm with h | h; exact h5 h; exact hp h.1) (fun p hp => hk p (List.mem_append_left _ hp))]
  have hpsk : ∀ q : List Int, (∀ k, k ≠ qF pr H → wordL q k = wordL d k) → hsQ q = hsQ d ∧ psQ pr H q = psQ pr H d := by
    intro q hq
    refine ⟨by unfold hsQ; rw [hq 6 (by omega), hq 7 (by omega), hq 8 (by omega), hq 9 (by omega)], ?_⟩
    unfold psQ
    by_cases h9 : pr = 1
    · rw [if_pos h9, if_pos h9, hq (H + 2) (by rcases hF with h | h; omega; omega)]
    · have := hF6 h9
      rw [if_neg h9, if_neg h9, hq H (by omega), hq (H + 1) (by omega)]
      by_cases h6 : pr = 6
      · have := hF7 h6
        rw [if_pos h6, if_pos h6, hq (H + 2) (by omega), hq (H + 3) (by omega)]
      · rw [if_neg h6, if_neg h6]
  rcases hfx with e | ⟨e, e0, ep, el⟩
  · rw [e] at hz ⊢
    exact ⟨b1.trans a1, b2, hdfar, fun p hp => (hdp p hp).1, h5d, by rw [epr, eH]; exact hpd2, by rw [epr]; exact hz⟩
  · rw [e] at hz ⊢
    obtain ⟨q1, q2⟩ := hpsk (layL d (qF pr H) 65535) (fun k hk => wordL_lay_other _ _ _ _ (fun e => hk e.symm))
    refine ⟨by rw [layL_len]; exact b1.trans a1, layL_byte b2 _ ⟨by omega, by omega⟩, fun i h5 hp hk => ?_, fun p hp => ?_, ?_, ?_, by rw [epr]; exact hz⟩
    · rw [getD_lay _ _ _ _ (fun e => hp (by rw [ep, e]; exact List.mem_singleton.2 rfl))]
      exact hdfar i h5 hp hk
    · rw [wordL_lay_other _ _ _ _ (fun e => (hdp p hp).2 e.symm)]
      exact (hdp p hp).1
    · rw [wordL_lay_other _ _ _ _ (by omega), q1]
      exact h5d
    · intro f hf
      have hff := (hfin f hf).1
      have e2 := hpd2 f hf
      rw [epr, eH, q1, q2, hff, wordL_lay_same _ _ _ (by rw [b1, a1]; omega)]
      rw [hff, e0] at e2
      rw [← e2]
      rfl
end Go.Proofs.Ytoegfgbalcholaa

/-
  The contracts of package sum's calls on numbers (add, Word, Long), and of the document's own answers (culvertref02) for them: each leaves the world as it was.
-/
namespace Go.Proofs.Ytoegfgbalcholaa
set_option maxRecDepth 10000
open Go.RowKit

theorem add_any (a b : Int) (w : World) (ha : U16 a) (hb : U16 b) :
    Calls Try.prog 78 #[.int .u16 a, .int .u16 b] w fun e w' => e = .returned (.int .u16 (add16 a b)) ∧ w = w' := by
  obtain ⟨ha0, ha1⟩ := ha
  obtain ⟨hb0, hb1⟩ := hb
  by_cases h : 65535 < a + b
  · go_enter Try.func78, Try.ntmps78
    go_wp2
    go_ret
    exact ⟨ret_int (by unfold add16; rw [if_pos h]; (try rw [wrap_u16]); (try rw [wrap_u16]); omega), rfl⟩
  · go_enter Try.func78, Try.ntmps78
    go_wp2
    go_ret
    exact ⟨ret_int (by unfold add16; rw [if_neg (by omega)]), rfl⟩

theorem word_any (f a b : Int) (w : World) (hf : U16 f) (ha : U16 a) (hb : U16 b) :
    Calls Try.prog 58 #[.int .u16 f, .int .u16 a, .int .u16 b] w fun e w' => e = .returned (.int .u16 (wordF f a b)) ∧ w = w' := by
  have h1 : U16 (65535 - f) := by unfold U16 at *; omega
  have h2 : U16 (65535 - a) := by unfold U16 at *; omega
  have h3 := add_bd _ _ h1 h2
  have h4 := add_bd _ _ h3 hb
  have n1 := not16 f hf
  have n2 := not16 a ha
  have n3 := not16 _ h4
  have N3 := Lib.hid n3
  clear n3
  go_enter Try.func58, Try.ntmps58
  go_wp2_with fail
  refine (add_any _ _ _ h1 h2).mono ?_
  rintro e w' ⟨rfl, rfl⟩
  go_wp2_with fail
  refine (add_any _ _ _ h3 hb).mono ?_
  rintro e w' ⟨rfl, rfl⟩
  clear n1 n2
  go_wp2_with fail
  go_ret
  exact ⟨ret_int N3.out, rfl⟩

theorem like_any (a b : Int) (w : World) :
    Calls Try.prog 39 #[.int .u16 a, .int .u16 b] w fun e w' => e = .returned (.bool (likeB a b)) ∧ w = w' := by
  by_cases h1 : a = b
  · have hl : likeB a b = true := by unfold likeB; simp [h1]
    rw [hl]
    subst h1
    clear hl
    go_enter Try.func39, Try.ntmps39
    go_wp2_with fail
    go_ret
    exact ⟨rfl, rfl⟩
  · have hl : likeB a b = ((decide (a = 0) && decide (b = 65535)) || (decide (a = 65535) && decide (b = 0))) := by unfold likeB; simp [h1]
    have h2 : (a == b) = false := by simpa using h1
    rw [hl]
    clear hl h1
    by_cases h3 : a = 0
    · subst h3
      by_cases h4 : b = 65535
      · subst h4
        go_enter Try.func39, Try.ntmps39
        go_wp2_with fail
        go_ret
        exact ⟨rfl, rfl⟩
      · have h5 : (b == 65535) = false := by simpa using h4
        go_enter Try.func39, Try.ntmps39
        go_wp2_with fail
        go_ret
        exact ⟨ret_bool (by simp [h4]), rfl⟩
    · have h6 : (a == 0) = false := by simpa using h3
      by_cases h4 : a = 65535
      · subst h4
        by_cases h5 : b = 0
        · subst h5
          go_enter Try.func39, Try.ntmps39
          go_wp2_with fail
          go_ret
          exact ⟨rfl, rfl⟩
        · have h5 : (b == 0) = false := by simpa using h5
          go_enter Try.func39, Try.ntmps39
          go_wp2_with fail
          go_ret
          exact ⟨ret_bool (by simpa using h5), rfl⟩
      · have h5 : (a == 65535) = false := by simpa using h4
        go_enter Try.func39, Try.ntmps39
        go_wp2_with fail
        go_ret
        exact ⟨ret_bool (by simp [h3, h4]), rfl⟩
theorem word_told (f a b x : Int) (w : World) (hf : U16 f) (ha : U16 a) (hb : U16 b) (hx : wordF f a b = x) :
    Calls Try.prog 58 #[.int .u16 f, .int .u16 a, .int .u16 b] w fun e w' => e = .returned (.int .u16 x) ∧ w = w' := by subst hx; exact word_any f a b w hf ha hb


end Go.Proofs.Ytoegfgbalcholaa

/-
  The contracts of package sum's Sum, Field and Right over parts that read as lists of bytes: the sum of all of them, one behind the other.
-/
namespace Go.Proofs.Ytoegfgbalcholaa
set_option maxRecDepth 10000
open Go.RowKit

theorem tick_any (p : Addr) (x y : Int) (w : World) (hx : U16 x) (hy : U16 y) (hc : w.cell? p = some (.int .u16 x)) (hf : w.frozen? p = false) :
    Calls Try.prog 86 #[.int .u16 y, .pointer (some p)] w fun e w' => e = .returned (.tuple #[]) ∧ w' = w.setCell p (.int .u16 (add16 x y)) := by
  go_enter Try.func86, Try.ntmps86
  go_wp2_with fail
  refine (add_any _ _ _ hx hy).mono ?_
  rintro e w' ⟨rfl, rfl⟩
  go_wp2_with fail
  go_end0
  exact ⟨rfl, rfl⟩

/-- The worlds of eachWord: the captured sum lies alone in the first block behind the older ones, and nothing older has turned. -/
structure Acc (w : World) (x : Int) (w' : World) : Prop where
  blk : w'.heap[w.heap.size]? = some (.cells #[.int .u16 x] 24 (0, 0))
  below : Below w.heap.size w w'
theorem Acc.set_ {w w' : World} {x : Int} (h : Acc w x w') (y : Int) : Acc w y (w'.setCell ⟨w.heap.size, 0, none⟩ (.int .u16 y)) :=
  ⟨one_setCell h.blk, h.below.setCell (Nat.le_refl _) _⟩

set_option maxHeartbeats 1000000 in
theorem each_any (A : Option Addr) (n c : Nat) (ls : List (List Int)) (w0 w : World) (hn : n ≤ 9223372036854775807) (h0 : Acc w0 0 w) (h : RdL w0 A n ls) :
    Calls Try.prog 85 #[.slice A n c, .func (.func 86) #[] #[.pointer (some ⟨w0.heap.size, 0, none⟩)]] w fun e w' => e = .returned (.tuple #[]) ∧ Acc w0 (sumL ls.flatten) w' := by
  have hlen := Lib.hid h.len
  go_enter Try.func85, Try.ntmps85
  go_wp2_with fail
  go_loopg [4, 5, 12] n (fun gk f wt i wr => ∃ k first waits acc, Hid (gk + k = n) ∧ k ≤ n ∧ f = .int .u8 first ∧ wt = .bool waits ∧ i = .int .i64 (k : Int) ∧ St (ls.take k).flatten acc first waits ∧ Acc w0 acc wr)
  case atStart => exact ⟨0, 0, false, 0, rfl, Nat.zero_le _, rfl, rfl, rfl, St.nil, h0⟩
  case round =>
    obtain ⟨k, first, waits, acc, hgk, hk, rfl, rfl, rfl, hst, hacc⟩ := hrel
    by_cases hlt : k < n
    · obtain ⟨p, Ai, ci, hrun, hpb, hcell0, hci, hcm, hrd⟩ := h.index (c := c) hlt
      have hcell := (hacc.below.cell hpb).trans hcell0
      clear hcell0 hpb
      obtain ⟨lk, elk⟩ : ∃ lk, ls.getD k [] = lk := ⟨_, rfl⟩
      rw [elk] at hcell hci hrd
      have hb := hrd.byte
      have Helk := Lib.hid elk
      clear elk
      unfold maxLen at hcm
      go_wp2_with fail
      clear hcell
      obtain ⟨wo, rfl⟩ : ∃ wo : World, wo = wr := ⟨_, rfl⟩
      obtain ⟨gn, rfl⟩ : ∃ gn : Nat, gn = gk := ⟨_, rfl⟩
      go_loopg [4, 5, 18] lk.length (fun gj f wt i wr => ∃ j first waits acc, Hid (gj + j = lk.length) ∧ j ≤ lk.length ∧ f = .int .u8 first ∧ wt = .bool waits ∧ i = .int .i64 (j : Int) ∧ St ((ls.take k).flatten ++ lk.take j) acc first waits ∧ Acc w0 acc wr)
      case atStart => exact ⟨0, first, waits, acc, rfl, Nat.zero_le _, rfl, rfl, rfl, by simpa using hst, hacc⟩
      case round =>
        obtain ⟨j, first, waits, acc, hgj, hj, rfl, rfl, rfl, hst, hacc⟩ := hrel
        by_cases hjl : j < lk.length
        · obtain ⟨q, hrunq, hcellq, hqb⟩ := (hrd.below hacc.below).index (c := ci) hjl
          have hx := getD_byte hb j
          obtain ⟨x, ex⟩ : ∃ x, lk.getD j 0 = x := ⟨_, rfl⟩
          rw [ex] at hcellq hx
          have Hex := Lib.hid (show (ls.take k).flatten ++ lk.take (j + 1) = (ls.take k).flatten ++ lk.take j ++ [x] by rw [take_one lk j hjl, ex, List.append_assoc])
          clear ex
          obtain ⟨hf0, hf1⟩ := hst.f
          obtain ⟨ha0, ha1⟩ := hst.bd
          have hor := or16 first x ⟨hf0, hf1⟩ hx
          obtain ⟨hx0, hx1⟩ := id hx
          cases waits
          · go_wp2_with fail
            go_roundg (gk - 1)
            case measure => have := hgj.out; omega
            case rel => exact ⟨j + 1, x, true, acc, by have := hgj.out; show gk - 1 + (j + 1) = _; omega, by omega, rfl, rfl, by go_num, by rw [Hex.out]; exact hst.two hx, hacc⟩
          · have hcb := cell_of_one hacc.blk
            have hfz := free_of_one hacc.blk
            go_wp2_with fail
            refine (tick_any _ acc (first * 256 + x) _ ⟨ha0, ha1⟩ (by unfold U16; omega) hcb hfz).mono ?_
            rintro e w1 ⟨rfl, rfl⟩
            clear hcb hfz hor
            go_wp2_with fail
            go_roundg (gk - 1)
            case measure => have := hgj.out; omega
            case rel => exact ⟨j + 1, x, false, _, by have := hgj.out; show gk - 1 + (j + 1) = _; omega, by omega, rfl, rfl, by go_num, by rw [Hex.out]; exact hst.one hx, hacc.set_ _⟩
        · go_wp2_with fail
          go_roundg (gn - 1)
          case measure => have := hgk.out; omega
          case rel => exact ⟨k + 1, first, waits, acc, by have := hgk.out; show gn - 1 + (k + 1) = _; omega, by omega, rfl, rfl, by go_num, by rw [flat_take ls k (by have := hlen.out; omega), Helk.out, ← List.take_of_length_le (show lk.length ≤ j by omega)]; exact hst, hacc⟩
    · have hd : (ls.take k).flatten = ls.flatten := by rw [List.take_of_length_le (by have := hlen.out; omega)]
      rw [hd] at hst
      clear hd
      obtain ⟨hf0, hf1⟩ := hst.f
      obtain ⟨ha0, ha1⟩ := hst.bd
      cases waits
      · go_wp2_with fail
        go_end0
        exact ⟨rfl, by rw [← hst.end0]; exact hacc⟩
      · have hcb := cell_of_one hacc.blk
        have hfz := free_of_one hacc.blk
        go_wp2_with fail
        refine (tick_any _ acc (first * 256) _ ⟨ha0, ha1⟩ (by unfold U16; omega) hcb hfz).mono ?_
        rintro e w1 ⟨rfl, rfl⟩
        clear hcb hfz
        go_wp2_with fail
        go_end0
        exact ⟨rfl, by rw [← hst.end1]; exact hacc.set_ _⟩

end Go.Proofs.Ytoegfgbalcholaa

/-
  The contracts of package sum's Sum, Field and Right, and of the document's own Sum and Field (culvertref02), over bytes that read as lists.
-/
namespace Go.Proofs.Ytoegfgbalcholaa
set_option maxRecDepth 10000
open Go.RowKit

/-- A number told, and nothing older has turned. -/
def SumIs (x : Int) (w : World) (e : Ending) (w' : World) : Prop := e = .returned (.int .u16 x) ∧ Below w.heap.size w w'
def BoolIs (x : Bool) (w : World) (e : Ending) (w' : World) : Prop := e = .returned (.bool x) ∧ Below w.heap.size w w'

theorem sum_any (A : Option Addr) (n c : Nat) (ls : List (List Int)) (w : World) (hn : n ≤ 9223372036854775807) (h : RdL w A n ls) :
    Calls Try.prog 69 #[.slice A n c] w (SumIs (sumL ls.flatten) w) := by
  have hmf : ∀ (fn : Fn) (first cap : Array Value) (w : World), (Instr.makeFunc fn first cap).run Try.prog w = .ok (.func fn first cap) w := fun _ _ _ _ => rfl
  have h0 : Acc w 0 (w.alloc (.cells #[.int .u16 0] 24)) := ⟨heap_alloc_new w _, (Below.refl _ _).alloc (Nat.le_refl _) _⟩
  go_enter Try.func69, Try.ntmps69
  go_wp2_with fail
  refine (each_any A n c ls w _ hn h0 h).mono ?_
  rintro e w1 ⟨rfl, hacc⟩
  have hcb := cell_of_one hacc.blk
  go_wp2_with fail
  go_ret
  exact ⟨rfl, hacc.below⟩

theorem field_any (A : Option Addr) (n c : Nat) (ls : List (List Int)) (w : World) (hn : n ≤ 9223372036854775807) (h : RdL w A n ls) :
    Calls Try.prog 35 #[.slice A n c] w (SumIs (65535 - sumL ls.flatten) w) := by
  have hx := not16 _ (sumL_bd ls.flatten)
  have Hx := Lib.hid hx
  clear hx
  go_enter Try.func35, Try.ntmps35
  go_wp2_with fail
  refine (sum_any A n c ls _ hn h).mono ?_
  rintro e w1 ⟨rfl, hb⟩
  go_wp2_with fail
  go_ret
  exact ⟨ret_int Hx.out, hb⟩

theorem field_told (A : Option Addr) (n c : Nat) (ls : List (List Int)) (w : World) (x : Int) (hn : n ≤ 9223372036854775807) (h : RdL w A n ls) (hx : 65535 - sumL ls.flatten = x) :
    Calls Try.prog 35 #[.slice A n c] w (SumIs x w) := by subst hx; exact field_any A n c ls w hn h
end Go.Proofs.Ytoegfgbalcholaa
