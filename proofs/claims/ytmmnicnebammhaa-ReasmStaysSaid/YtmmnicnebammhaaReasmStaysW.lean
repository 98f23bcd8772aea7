/-
  ReasmStays' walk, over the face.
-/
import Derived.Test.YtmmnicnebammhaaTk
import Derived.Test.YtmmnicnebammhaaRmStep
import Derived.Test.YtmmnicnebammhaaRmStayP
import Derived.Test.YtmmnicnebammhaaRmWakes
import Derived.Deep.DeepCutAuto
import Derived.Deep.LoopGhost
import Derived.Deep.CutRange
namespace Go.Proofs.Ytmmnicnebammhaa.reasmStaysW
set_option maxRecDepth 10000
open Go.RowKit
set_option linter.unusedVariables false
set_option linter.unusedSimpArgs false
variable {BAt : BA}

theorem wrap_num32 (x : Int) : IntKind.u32.wrap x = num32 x := by rw [IntKind.wrap_u32]; unfold num32; rfl
theorem w32 (x : Nat) (h : x ≤ 1000000) : IntKind.u32.wrap (x : Int) = x := by rw [IntKind.wrap_u32]; omega
theorem u16_w (x : Int) (h : 0 ≤ x ∧ x < 65536) : wrap64 x = x := IntWalk.wrap64_in _ (by omega)
theorem w64s (x : Nat) (h : x ≤ 1000000) : wrap64 ((x : Int) + 1) = (x : Int) + 1 := IntWalk.wrap64_in _ (by omega)
theorem wsub (m t d : Nat) (h : t ≤ m) (hm : m ≤ 300) (hd : m - t = d) : wrap64 ((m : Int) - (t : Int)) = (d : Int) := by rw [IntWalk.wrap64_in _ (by omega)]; omega
theorem mod_is (x : Int) (n : Nat) (h : 0 ≤ x) : ∃ k : Nat, k ≤ n ∧ Int.tmod x ((n : Int) + 1) = k := by
  have h1 := Int.emod_nonneg x (show (n : Int) + 1 ≠ 0 by omega)
  have h2 := Int.emod_lt_of_pos x (show (0 : Int) < (n : Int) + 1 by omega)
  obtain ⟨y, hy⟩ : ∃ y, x % ((n : Int) + 1) = y := ⟨_, rfl⟩
  have ht : Int.tmod x ((n : Int) + 1) = y := by rw [Int.tmod_eq_emod_of_nonneg h]; exact hy
  rw [hy] at h1 h2
  exact ⟨y.toNat, by omega, by rw [ht]; omega⟩
theorem min_two (n N : Nat) (h : (if (300 : Int) < (N : Int) then 300 else (N : Int)) = n) : min (N : Int) 300 = n := by
  rw [← h]
  split <;> omega
theorem want_is (na no k wn : Nat) (hk : k ≤ na) (ha : na ≤ 300) (ho : no ≤ 300) (h : min no k + (no - na) = wn) : wrap64 ((if k < no then (k : Int) else (no : Int)) + if 0 < wrap64 ((no : Int) - (na : Int)) then wrap64 ((no : Int) - (na : Int)) else 0) = (wn : Int) := by
  have h1 : wrap64 ((no : Int) - (na : Int)) = (no : Int) - (na : Int) := IntWalk.wrap64_in _ (by omega)
  rw [h1]
  have h2 : (if k < no then (k : Int) else (no : Int)) + (if 0 < (no : Int) - (na : Int) then (no : Int) - (na : Int) else 0) = (wn : Int) := by
    split <;> split <;> omega
  rw [h2]
  exact IntWalk.wrap64_in _ (by omega)
theorem own_on {Z : Nat → Prop} {w w' : World} {B n c : Nat} {A : Option Addr} {l : List Int} (h : OwnB w B A n c l) (hb : But (fun k => ¬ Z k) w w') (hZ : ∀ b, (Value.slice A n c).ownBlock = some b → Z b) : OwnB w' B A n c l := by
  refine ⟨h.1, ?_⟩
  rcases h.2 with h0 | ⟨g, cap, cur, e, hB, hc, hrest⟩
  · exact .inl h0
  · exact .inr ⟨g, cap, cur, e, hB, hb.blk hc (fun hk => hk (hZ g (by rw [e]; rfl))), hrest⟩
theorem stay_ok {a o : List Int} {f : Int} {na no k : Nat} {L1 L2 L3 : BL} {nk wn r : Nat} {T : List Int} {fk ft : Int} (X : StayIs a o f na no k L1 L2 L3 nk wn r T fk ft) {w : World} {A0 A1 : Option Addr} {c0 c1 : Nat} (h0 : RdC w A0 na c0 a) (h1 : RdC w A1 no c1 o) : okB L2 := by
  rw [← X.x2.1, ← X.x1.1]
  refine putQ_ok (putQ_ok (fun x hx => ?_) (fun x hx => h0.rd.byte x (List.mem_of_mem_drop hx))) h1.rd.byte
  have := List.eq_of_mem_replicate hx
  cases this
theorem str_eql (x : ByteArray) (W : World) : (binOp .eql 9 (.string x) (.string x)).run Try.prog W = .ok (.bool true) W := by
  go_simp
theorem getD_u8 {l : List Int} (h : ∀ x ∈ l, 0 ≤ x ∧ x < 256) (j : Nat) : 0 ≤ l.getD j 0 ∧ l.getD j 0 < 256 := by
  by_cases hj : j < l.length
  · simp only [List.getD, List.getElem?_eq_getElem hj, Option.getD_some]
    exact h _ (List.getElem_mem hj)
  · simp [List.getD, List.getElem?_eq_none (by omega : l.length ≤ j)]
theorem stay_cases {a o : List Int} {k x : Nat} {v : Int} (h : stayF a o k x = some v) : (k ≤ x ∧ x < a.length ∧ a.getD x 0 = v) ∨ (¬ (k ≤ x ∧ x < a.length) ∧ x < o.length ∧ o.getD x 0 = v) := by
  unfold stayF at h
  by_cases h1 : k ≤ x ∧ x < a.length
  · left
    rw [if_pos h1.1, List.getElem?_eq_getElem h1.2, Option.some_or] at h
    injection h with h
    exact ⟨h1.1, h1.2, by rw [List.getD, List.getElem?_eq_getElem h1.2, Option.getD_some, h]⟩
  · right
    have h2 : (if k ≤ x then a[x]? else none) = none := by
      by_cases h3 : k ≤ x
      · rw [if_pos h3]; exact List.getElem?_eq_none (by omega)
      · rw [if_neg h3]
    rw [h2, Option.none_or] at h
    obtain ⟨h4, h5⟩ := List.getElem?_eq_some_iff.1 h
    exact ⟨h1, h4, by rw [List.getD, h, Option.getD_some]⟩
theorem stay_cases' {a o : List Int} {k x na no : Nat} {v : Int} (h : stayF a o k x = some v) (ha : a.length = na) (ho : o.length = no) : (k ≤ x ∧ x < na ∧ a.getD x 0 = v) ∨ (¬ (k ≤ x ∧ x < na) ∧ x < no ∧ o.getD x 0 = v) := by
  subst ha; subst ho
  exact stay_cases h
theorem stay_end {a o : List Int} {k r na no : Nat} (h : stayF a o k r = none) (ha : a.length = na) (ho : o.length = no) : ¬ (k ≤ r ∧ r < na) ∧ ¬ r < no := by
  unfold stayF at h
  rw [Option.or_eq_none_iff] at h
  subst ha; subst ho
  refine ⟨fun h1 => ?_, fun h1 => ?_⟩
  · have := h.1
    rw [if_pos h1.1, List.getElem?_eq_getElem h1.2] at this
    cases this
  · have := h.2
    rw [List.getElem?_eq_getElem h1] at this
    cases this
set_option maxHeartbeats 4000000 in
theorem walk (F : BFace BAt) (w : World) (A0 : Option Addr) (N0 c0 : Nat) (l0 : List Int) (hb0 : RdC w A0 N0 c0 l0) (A1 : Option Addr) (N1 cq : Nat) (l1 : List Int) (hb1 : RdC w A1 N1 cq l1) (f at_ : Int) (hf : 0 ≤ f ∧ f < 4294967296) (hat : 0 ≤ at_ ∧ at_ < 65536) :
    Calls Try.prog 5 #[.slice A0 N0 c0, .slice A1 N1 cq, .int .u32 f, .int .u16 at_] w fun e w' => e = .returned (.bool true) ∧ Below w.heap.size w w' := by
  obtain ⟨na, hmin0, hn0, hn3⟩ := min_nat 300 N0 (by omega)
  obtain ⟨no, hmin1, hn1, hn4⟩ := min_nat 300 N1 (by omega)
  have hm0 := min_two na N0 hmin0
  have hm1 := min_two no N1 hmin1
  obtain ⟨hs0, hr0⟩ := hb0.upto na hn0
  obtain ⟨hs1, hr1⟩ := hb1.upto no hn1
  obtain ⟨a, ea⟩ : ∃ s, l0.take na = s := ⟨_, rfl⟩
  obtain ⟨o, eo⟩ : ∃ s, l1.take no = s := ⟨_, rfl⟩
  rw [ea] at hr0
  rw [eo] at hr1
  have ha3 : na ≤ 300 := by omega
  have ho3 : no ≤ 300 := by omega
  obtain ⟨k, hk, q1⟩ := mod_is at_ na hat.1
  obtain ⟨L1, L2, L3, nk, wn, r, T, fk, ft, X⟩ := stay_is a o f na no k hr0.rd.len hr1.rd.len ha3 ho3 hk
  obtain ⟨Ak, hsk, hrk⟩ := hr0.from_ k hk
  rw [X.xnk] at hsk hrk
  have hnk : nk ≤ 300 := by have := X.xnk; omega
  have g0 : ¬ ((na : Int) + 1 = 0) := by omega
  have HF := Lib.hid F
  have HX := Lib.hid X
  have Hf := Lib.hid hf
  have Hr0 := Lib.hid hr0
  have Hr1 := Lib.hid hr1
  have Hrk := Lib.hid hrk
  have Ha := Lib.hid ha3
  have Ho := Lib.hid ho3
  have Hk := Lib.hid hk
  have Hnk := Lib.hid hnk
  have HM := Lib.hid (At18.start (BAt := BAt) w)
  have q2 := w64s na (Nat.le_trans ha3 (by decide))
  have q3 := u16_w at_ hat
  have q4 := w32 k (Nat.le_trans hk (Nat.le_trans ha3 (by decide)))
  have q5 : IntKind.u32.wrap (f + (k : Int)) = fk := (wrap_num32 _).trans X.xfk
  have q6 := wsub na k nk hk ha3 X.xnk
  clear F X hf hr0 hr1 hrk ha3 ho3 hk hnk hb0 hb1 ea eo hat hn3 hn4 hn0 hn1
  go_enter Try.func5, Try.ntmps5
  go_upto_region 1 with (fail)
  refine wp_region_held_drew (S := fun _ => True) (by kernel_rfl) trivial (fun hHeld => ?_)
  obtain ⟨w1, ew1⟩ : ∃ v, w.drew = v := ⟨_, rfl⟩
  have HM := Lib.hid (show At18 BAt _ w _ w1 by rw [← ew1]; exact HM.out.drewN HF.out 1)
  rw [ew1]
  clear ew1
  refine tk 0 ?_ rfl ?_ ?_
  rotate_left
  · intro w' hSw; (go_simp <;> (with_reducible rfl))
  try simp only [Act.put, putL]
  refine tk 1 ?_ rfl ?_ ?_
  rotate_left
  · intro w' hSw; (go_simp <;> (with_reducible rfl))
  try simp only [Act.put, putL]
  refine tk 2 ?_ rfl ?_ ?_
  rotate_left
  · intro w' hSw; (go_simp <;> (with_reducible rfl))
  try simp only [Act.put, putL]
  refine tk 3 ?_ rfl ?_ ?_
  rotate_left
  · intro w' hSw; (go_simp <;> (with_reducible rfl))
  try simp only [Act.put, putL]
  refine tk 4 ?_ rfl ?_ ?_
  rotate_left
  · intro w' hSw; (go_simp <;> (with_reducible rfl))
  try simp only [Act.put, putL]
  refine tk 5 ?_ rfl ?_ ?_
  rotate_left
  · intro w' hSw; (go_simp <;> (with_reducible rfl))
  try simp only [Act.put, putL]
  refine tk 6 ?_ rfl ?_ ?_
  rotate_left
  · intro w' hSw; (go_simp <;> (with_reducible rfl))
  try simp only [Act.put, putL]
  refine tk 7 ?_ rfl ?_ ?_
  rotate_left
  · intro w' hSw; (go_simp <;> (with_reducible rfl))
  try simp only [Act.put, putL]
  refine tk 8 ?_ rfl ?_ ?_
  rotate_left
  · intro w' hSw; (go_simp <;> (with_reducible rfl))
  try simp only [Act.put, putL]
  refine tk 9 ?_ rfl ?_ ?_
  rotate_left
  · intro w' hSw; (go_simp <;> (with_reducible rfl))
  try simp only [Act.put, putL]
  refine tk 10 ?_ rfl ?_ ?_
  rotate_left
  · intro w' hSw; (go_simp <;> (with_reducible rfl))
  try simp only [Act.put, putL]
  refine tk 11 ?_ rfl ?_ ?_
  rotate_left
  · intro w' hSw; (go_simp <;> (with_reducible rfl))
  try simp only [Act.put, putL]
  refine wpAnyH_done (by kernel_rfl) ?_ _
  clear hHeld
  go_wp2_with fail
  refine (snew HF.out _ _ w w1 HM.out f 700 Hf.out (by decide)).mono ?_
  rintro e w2 ⟨ga, rfl, h1, h2⟩
  have HM := Lib.hid h1
  clear h1 h2
  unfold madeR
  go_wp2_with fail
  refine (sput HF.out _ 0 ga f _ _ [(ga, f, L1)] w w2 HM.out rfl fk Ak nk (c0 - k) _ _ L1 nk 0 HX.out.xfkb Hrk.out (Nat.le_trans Hnk.out (by decide)) rfl HX.out.x1.1 HX.out.x1.2.1 HX.out.x1.2.2 rfl).mono ?_
  rintro e w3 ⟨rfl, h1, h2⟩
  have HM := Lib.hid h1
  clear h1 h2
  go_wp2_with fail
  refine (sput HF.out _ 0 ga f L1 _ [(ga, f, L2)] w w3 HM.out rfl f A1 no cq _ _ L2 wn 0 Hf.out Hr1.out (Nat.le_trans Ho.out (by decide)) rfl HX.out.x2.1 HX.out.x2.2.1 HX.out.x2.2.2 rfl).mono ?_
  rintro e w4 ⟨rfl, h1, h2⟩
  have HM := Lib.hid h1
  clear h1 h2
  have g1 : ¬ na < k := Nat.not_lt_of_le Hk.out
  have y1 : na ≤ 300 := Ha.out
  have y2 : no ≤ 300 := Ho.out
  clear q1 q2 q3 q4 q5 q6
  go_upto_region 10 with (fail)
  go_cut [16] (fun s16 wx => ∃ wq, wq = wx ∧ s16 = .int .i64 (wn : Int) ∧ Hid (At18 BAt (fun k => k < w.heap.size) w [(ga, f, L2)] wq))
  case first =>
    by_cases z1 : k < no <;> by_cases z2 : na < no
    all_goals
      go_wp2_with fail
      go_meet
      case rel => exact ⟨_, rfl, congrArg (Value.int .i64) (by have := HX.out.xwn; omega), HM⟩
  case rest =>
    obtain ⟨w5, ew5, rfl, HM⟩ := hcut
    subst ew5
    go_wp2_with fail
    refine (scopy HF.out _ 0 ga f L2 _ w w5 HM.out rfl).mono ?_
    rintro e w6 ⟨gc, rfl, h1, h2⟩
    have HM := Lib.hid h1
    clear h1 h2
    unfold ptrR
    go_wp2_with fail
    refine (stake HF.out _ 0 ga f L2 _ [(ga, ft, L3), (gc, f, L2)] w w6 HM.out rfl ft L3 T HX.out.xt.1 HX.out.xt.2.1 HX.out.xt.2.2 rfl).mono ?_
    rintro e w7 ⟨Ax, nx, cx, rfl, hnx, hx, h1, h2⟩
    have HM := Lib.hid h1
    clear h1 h2
    have Hx := Lib.hid (hx.mono (B' := 0) (Nat.zero_le _))
    have Hnx := Lib.hid (hnx.symm.trans HX.out.xtl)
    clear hx hnx
    go_wp2_with fail
    refine (stake HF.out _ 1 gc f L2 _ [(ga, ft, L3), (gc, ft, L3)] w w7 HM.out rfl ft L3 T HX.out.xt.1 HX.out.xt.2.1 HX.out.xt.2.2 rfl).mono ?_
    rintro e w8 ⟨Ay, ny, cy, rfl, hny, hy, h1, h2⟩
    have Hx := Lib.hid (own_on Hx.out h2 (fun b e => .inr e))
    have HM := Lib.hid h1
    clear h1 h2
    have Hy := Lib.hid (hy.mono (B' := 0) (Nat.zero_le _))
    have Hny := Lib.hid (hny.symm.trans HX.out.xtl)
    clear hy hny
    have hbT : ∀ y ∈ T, 0 ≤ y ∧ y < 256 := by
      have hok := (HM.out.many.ok HF.out (i := 0) rfl).1
      rw [← HX.out.xt.1]
      exact take_ok (stay_ok HX.out Hr0.out Hr1.out)
    have HbT := Lib.hid hbT
    clear hbT
    go_wp2_with fail
    go_loopg [20, 21] r (fun gk x20 x21 wr => ∃ (x co : Nat) (A : Option Addr), Hid (gk + x = r) ∧ x21 = .int .i64 (x : Int) ∧ x20 = .slice A x co ∧ Hid (Hold w8 A x co (T.take x) wr))
    case atStart => exact ⟨0, 0, none, Lib.hid (by omega), rfl, rfl, Lib.hid ⟨Below.refl _ _, OwnB.nil _ _⟩⟩
    case round =>
      obtain ⟨x, co, A, hgk, rfl, rfl, HO⟩ := hrel
      obtain rfl : gk = r - x := by have := hgk.out; omega
      have hxle : x ≤ r := by have := hgk.out; omega
      have hr3 : r ≤ 300 := by have := HX.out.xr; omega
      clear hgk
      have hbw : Below w.heap.size w wr := HM.out.base.trans (HO.out.old.mono HM.out.base.size)
      have i0 : (0 : Int) ≤ (x : Int) := by omega
      by_cases hxr : x < r
      · obtain ⟨hF, hT⟩ := HX.out.xat x hxr
        have hvb := getD_u8 HbT.out x
        obtain ⟨v, ev⟩ : ∃ v, T.getD x 0 = v := ⟨_, rfl⟩
        rw [ev] at hF hT hvb
        have HO1 := Lib.hid (HO.out.own.alloc (.cells #[.int .u8 v] 5))
        have Hrd1 := Lib.hid (Rd.one wr v hvb)
        have h47 : x + 1 ≤ 140737488355328 := by omega
        have hB : w8.heap.size ≤ (wr.alloc (.cells #[.int .u8 v] 5)).heap.size := by have := HO.out.old.size; simp; omega
        obtain ⟨A3, co3, w9, hrun, hown3, -, hbel3, -⟩ := app_run (wr.alloc (.cells #[.int .u8 v] 5)) 32 w8.heap.size A (some ⟨wr.heap.size, 0, none⟩) x co 1 1 (T.take x) [v] HO1.out Hrd1.out h47 hB
        have Hrun := Lib.hid hrun
        have HT := Lib.hid hT
        have HO9 := Lib.hid (show Hold w8 A3 (x + 1) co3 (T.take (x + 1)) w9 from ⟨(HO.out.old.alloc HO.out.old.size _).trans hbel3, by rw [HT.out]; exact hown3⟩)
        clear hrun hown3 hbel3 HO1 Hrd1
        have y5 : (x : Int) < 1000 := by omega
        clear hT hvb ev
        rcases stay_cases' hF Hr0.out.rd.len Hr1.out.rd.len with ⟨c1, c2, c3⟩ | ⟨c1, c2, c3⟩
        · obtain ⟨p, hidx, hcell, -⟩ := (Hr0.out.rd.below hbw).index (c := c0) c2
          rw [c3] at hcell
          have z1 : (x : Int) < (na : Int) := by omega
          have z2 : (k : Int) ≤ (x : Int) := by omega
          clear hF
          by_cases c4 : x < no
          · have z3 : (x : Int) < (no : Int) := by omega
            go_wp2_with (at_builtin; refine wpList_appX rfl (.tmp 121) (.tmp 126) _ _ rfl rfl _ _ _ w9 rfl rfl Hrun.out ?_)
            go_wp2_with fail
            go_roundg (r - (x + 1))
            case measure => omega
            case rel => exact ⟨x + 1, co3, A3, Lib.hid (by omega), by go_num, rfl, HO9⟩
          · have z3 : ¬ (x : Int) < (no : Int) := by omega
            go_wp2_with (at_builtin; refine wpList_appX rfl (.tmp 121) (.tmp 126) _ _ rfl rfl _ _ _ w9 rfl rfl Hrun.out ?_)
            go_wp2_with fail
            go_roundg (r - (x + 1))
            case measure => omega
            case rel => exact ⟨x + 1, co3, A3, Lib.hid (by omega), by go_num, rfl, HO9⟩
        · obtain ⟨p, hidx, hcell, -⟩ := (Hr1.out.rd.below hbw).index (c := cq) c2
          rw [c3] at hcell
          have z1 : (x : Int) < (no : Int) := by omega
          clear hF
          by_cases c4 : k ≤ x
          · have z2 : (k : Int) ≤ (x : Int) := by omega
            have z3 : ¬ (x : Int) < (na : Int) := by omega
            go_wp2_with (at_builtin; refine wpList_appX rfl (.tmp 132) (.tmp 137) _ _ rfl rfl _ _ _ w9 rfl rfl Hrun.out ?_)
            go_wp2_with fail
            go_roundg (r - (x + 1))
            case measure => omega
            case rel => exact ⟨x + 1, co3, A3, Lib.hid (by omega), by go_num, rfl, HO9⟩
          · have z2 : ¬ (k : Int) ≤ (x : Int) := by omega
            go_wp2_with (at_builtin; refine wpList_appX rfl (.tmp 132) (.tmp 137) _ _ rfl rfl _ _ _ w9 rfl rfl Hrun.out ?_)
            go_wp2_with fail
            go_roundg (r - (x + 1))
            case measure => omega
            case rel => exact ⟨x + 1, co3, A3, Lib.hid (by omega), by go_num, rfl, HO9⟩
      · obtain rfl : x = r := by omega
        obtain ⟨c1, c2⟩ := stay_end HX.out.xstop Hr0.out.rd.len Hr1.out.rd.len
        have z1 : ¬ (x : Int) < (no : Int) := by omega
        obtain ⟨st, est⟩ : ∃ y, strOfNums T = y := ⟨_, rfl⟩
        obtain rfl : x = nx := Hnx.out.symm
        obtain rfl : ny = x := Hny.out
        have hq1 := str_eql st
        have HV := Lib.hid (show (convert 32 9 (.slice Ax ny cx)).run Try.prog wr = .ok (.string st) wr ∧ (convert 32 9 (.slice Ay ny cy)).run Try.prog wr = .ok (.string st) wr ∧ (convert 32 9 (.slice A ny co)).run Try.prog wr = .ok (.string st) wr from by
          have ho := HO.out.own
          rw [List.take_of_length_le (Nat.le_of_eq HX.out.xtl)] at ho
          rw [← est]
          exact ⟨conv_rd (OwnB.rd (Hx.out.on HO.out.old) HbT.out) cx, conv_rd (OwnB.rd (Hy.out.on HO.out.old) HbT.out) cy, conv_rd (OwnB.rd ho HbT.out) co⟩)
        clear est
        by_cases c4 : ny < na
        · have z2 : (ny : Int) < (na : Int) := by omega
          have z3 : ¬ (k : Int) ≤ (ny : Int) := by omega
          obtain ⟨v1, v2, v3⟩ := HV.out
          go_wp2_with fail
          refine (rmwake_any HF.out _).mono ?_
          rintro e wz ⟨rfl, hbz⟩
          have HE := Lib.hid (hbw.trans (hbz.mono hbw.size))
          clear hbz v1 v2 v3
          go_wp2_with fail
          go_ret
          exact ⟨rfl, HE.out⟩
        · have z2 : ¬ (ny : Int) < (na : Int) := by omega
          obtain ⟨v1, v2, v3⟩ := HV.out
          go_wp2_with fail
          refine (rmwake_any HF.out _).mono ?_
          rintro e wz ⟨rfl, hbz⟩
          have HE := Lib.hid (hbw.trans (hbz.mono hbw.size))
          clear hbz v1 v2 v3
          go_wp2_with fail
          go_ret
          exact ⟨rfl, HE.out⟩
end Go.Proofs.Ytmmnicnebammhaa.reasmStaysW
