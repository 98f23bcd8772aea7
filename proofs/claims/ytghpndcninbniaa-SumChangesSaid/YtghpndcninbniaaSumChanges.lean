/-
  SumChanges holds: bytes with a field that was laid are right; if words become others, and the field what Word tells, they stay right, unless all others are 0; and the field is the one laid anew, but that 0 and ffff stand for each other. No condition.
-/
import Derived.Test.YtghpndcninbniaaSumCells
import Derived.Test.YtghpndcninbniaaSumOpen
import Derived.Test.YtghpndcninbniaaQuiet
namespace Go.Proofs.Ytghpndcninbniaa.sumChanges
open Go.ChangeShapes Go.WideShapes Go.ChangeAt Go.RowKit
set_option linter.unusedVariables false

/-- Bytes that are right. -/
structure Inv (m : Nat) (l : List Int) : Prop where
  len : l.length = m
  byte : Bytes l
  mod : ws false l % 65535 = 0
  pos : 0 < ws false l
theorem Inv.right {m : Nat} {l : List Int} (h : Inv m l) : sumL l = 65535 := by
  have h1 := h.mod
  have h2 := h.pos
  unfold sumL fold16
  rw [if_neg (by omega)]
  omega
theorem inv_start {m p K : Nat} {l : List Int} (hl : l.length = m) (hm : m = 2 * p) (hK : K < p) (hb : Bytes l) : Inv m (layL (layL l K 0) K (65535 - sumL (layL l K 0))) := by
  have u0 : U16 0 := by unfold U16; omega
  have hk : 2 * K + 1 < l.length := by omega
  have hb1 := layL_byte hb K u0
  have hl1 := layL_len l K 0
  have bd := sumL_bd (layL l K 0)
  have ux : U16 (65535 - sumL (layL l K 0)) := by unfold U16; omega
  have nn := ws_nn _ hb1 false
  have e := ws_lay (layL l K 0) K (65535 - sumL (layL l K 0)) (by omega)
  rw [wordL_lay_same l K 0 hk] at e
  have fm := fold_mod _ nn
  have fb := fold_pos (ws false (layL l K 0))
  unfold sumL at bd e ⊢
  refine ⟨by rw [layL_len, layL_len, hl], layL_byte hb1 K ux, ?_, ?_⟩
  · rw [e]; omega
  · rw [e]
    by_cases h0 : ws false (layL l K 0) = 0
    · rw [h0]; rw [fold_zero]; omega
    · have := fold_bd (ws false (layL l K 0)); omega

/-- A round: the word at K becomes x, the field at F what Word tells. -/
theorem inv_round {m p K F : Nat} {l : List Int} {x : Int} (h : Inv m l) (hm : m = 2 * p) (hK : K < p) (hF : F < p) (hne : K ≠ F) (hx : U16 x) :
    let l2 := layL (layL l K x) F 0
    let nx := wordF (wordL l F) (wordL l K) x
    let an := 65535 - sumL l2
    let l3 := layL l2 F nx
    U16 nx ∧ U16 an ∧ Bytes l2 ∧ Bytes l3 ∧ l2.length = m ∧ l3.length = m ∧ (restL l3 F = 0 → Inv m (layL l3 F an)) ∧ (restL l3 F ≠ 0 → Inv m l3 ∧ likeB nx an = true) := by
  intro l2 nx an l3
  have u0 : U16 0 := by unfold U16; omega
  have hl := h.len
  have hk : 2 * K + 1 < l.length := by omega
  have hf : 2 * F + 1 < l.length := by omega
  have hb1 := layL_byte h.byte K hx
  have hl1 := layL_len l K x
  have hb2 : Bytes l2 := layL_byte hb1 F u0
  have hl2 : l2.length = l.length := by show (layL (layL l K x) F 0).length = _; rw [layL_len, layL_len]
  have unx : U16 nx := wordF_bd _ _ _ (wordL_bd h.byte F) (wordL_bd h.byte K) hx
  have hb3 : Bytes l3 := layL_byte hb2 F unx
  have hl3 : l3.length = l.length := by show (layL l2 F nx).length = _; rw [layL_len, hl2]
  have bd := sumL_bd l2
  have uan : U16 an := by show U16 (65535 - sumL l2); unfold U16; omega
  have r2 : restL l2 F = restL l F - wordL l K + x := by
    show restL (layL (layL l K x) F 0) F = _
    rw [restL_same _ _ _ (by omega), restL_other l K F x hk hne]
  have w2 : ws false l2 = restL l2 F := by
    rw [ws_rest l2 F]
    have : wordL l2 F = 0 := wordL_lay_same (layL l K x) F 0 (by omega)
    omega
  have r3 : restL l3 F = restL l2 F := restL_same l2 F nx (by omega)
  have w3 : ws false l3 = restL l3 F + nx := by
    rw [ws_rest l3 F]
    have : wordL l3 F = nx := wordL_lay_same l2 F nx (by omega)
    omega
  have n2 := ws_nn l2 hb2 false
  have fm := fold_mod _ n2
  have e0 := ws_rest l F
  have hmod := h.mod
  have hnx : nx % 65535 = (wordL l F + wordL l K - x) % 65535 := wordF_mod _ _ _
  have han : an = 65535 - fold16 (ws false l2) := rfl
  refine ⟨unx, uan, hb2, hb3, by omega, by omega, fun hz => ?_, fun hz => ?_⟩
  · have e4 := ws_lay l3 F an (by omega)
    have e5 := ws_rest l3 F
    have f0 : fold16 (ws false l2) = 0 := by rw [w2, ← r3, hz]; rfl
    refine ⟨by rw [layL_len]; omega, layL_byte hb3 F uan, ?_, ?_⟩
    · rw [e4]; omega
    · rw [e4]; omega
  · have hpos : 0 < ws false l2 := by omega
    have u := unx
    unfold U16 at u
    refine ⟨⟨by omega, hb3, by rw [w3]; omega, by omega⟩, like_of _ _ unx uan ?_⟩
    omega

theorem inv_named {m p K F : Nat} {l l2 l3 : List Int} {x nx an : Int} (h : Inv m l) (hm : m = 2 * p) (hK : K < p) (hF : F < p) (hne : ¬ K = F) (hx : U16 x)
    (e2 : layL (layL l K x) F 0 = l2) (en : wordF (wordL l F) (wordL l K) x = nx) (ea : 65535 - sumL l2 = an) (e3 : layL l2 F nx = l3) :
    U16 nx ∧ U16 an ∧ Bytes l2 ∧ Bytes l3 ∧ l2.length = m ∧ l3.length = m ∧ (restL l3 F = 0 → Inv m (layL l3 F an)) ∧ (restL l3 F ≠ 0 → Inv m l3 ∧ likeB nx an = true) := by
  subst e2; subst en; subst ea; subst e3
  exact inv_round h hm hK hF hne hx

theorem flat1 (l : List Int) : [l].flatten = l := by simp
theorem ld_u16 (p : Addr) (x : Int) (w : World) (h : w.cell? p = some (.int .u16 x)) : (Instr.loadAt 25 (.pointer (some p))).run Try.prog w = .ok (.int .u16 x) w := by
  go_simp

set_option maxRecDepth 100000 in
set_option maxHeartbeats 8000000 in
theorem walk (w : World) (v0 : Value) (h0 : BytesAt w v0) (fd : Int) (w1 : (Lit.int .u16 fd).wf = true) (at_ : Int) (w2 : (Lit.int .u16 at_).wf = true) (v3 : Value) (h3 : U16sAt w v3) :
    Calls Try.prog 5 #[v0, .int .u16 fd, .int .u16 at_, v3] w fun e w' => e = .returned (.bool true) ∧ Below w.heap.size w w' := by
  obtain ⟨A1, n1, c1, b0, rfl, hn1, hc1, r1⟩ := h0
  obtain ⟨A3, n3, c3, lw, rfl, hn3, hc3, r3⟩ := h3
  have hfd := bounds_u16 w1
  have hat := bounds_u16 w2
  obtain ⟨hfd0, hfd1⟩ := hfd
  obtain ⟨hat0, hat1⟩ := hat
  have hel := evenL_len b0
  have heb := evenL_byte r1.byte
  obtain ⟨l0, el0⟩ : ∃ l0, evenL b0 = l0 := ⟨_, rfl⟩
  rw [el0] at hel heb
  obtain ⟨m, em⟩ : ∃ m, l0.length = m := ⟨_, rfl⟩
  rw [em] at hel
  obtain ⟨p, hmp⟩ : ∃ p, m = 2 * p := ⟨m / 2, by omega⟩
  have hp1 : 1 ≤ p := by omega
  have hmb : m ≤ 140737488351236 := by have h1 := hel.2.2; have h2 := r1.len; omega
  obtain ⟨F, hF⟩ : ∃ F : Nat, fd % (p : Int) = (F : Int) := ⟨(fd % (p : Int)).toNat, by have := Int.emod_nonneg fd (show (p : Int) ≠ 0 by omega); omega⟩
  have hFp : F < p := by have := Int.emod_lt_of_pos fd (show (0 : Int) < (p : Int) by omega); omega
  have hinv := inv_start em hmp hFp heb
  have Hel0 := Lib.hid el0
  have Hem := Lib.hid em
  have Hm := Lib.hid hmp
  have HF := Lib.hid hF
  have HFp := Lib.hid hFp
  have u0 : U16 0 := by unfold U16; omega
  have ux0 : U16 (65535 - sumL (layL l0 F 0)) := by have := sumL_bd (layL l0 F 0); unfold U16; omega
  obtain ⟨x0, ex0⟩ : ∃ x0, 65535 - sumL (layL l0 F 0) = x0 := ⟨_, rfl⟩
  rw [ex0] at hinv ux0
  have Hx0 := Lib.hid ex0
  have hmI : (m : Int) ≤ 140737488351236 := by omega
  clear w1 w2 el0 em hmp hF hFp hel ex0
  go_enter Try.func5, Try.ntmps5
  go_wp2_with fail
  refine (even_told A1 n1 c1 b0 l0 m w (by omega) r1 Hel0 Hem).mono ?_
  rintro e w3 ⟨A, c, rfl, hcap, hcm, hown, hb⟩
  have hh : Hold w A m c l0 w3 := ⟨hb, hown⟩
  clear hb hown
  go_wp2_with fail
  refine (lay_any w.heap.size A m c _ fd 0 p F _ (by omega) Hm.out hp1 (by omega) HF.out u0 hh.own).mono ?_
  rintro e w4 hlay
  have hh := hh.lay hlay
  obtain ⟨rfl, -, -, -⟩ := hlay
  go_wp2_with fail
  refine (field_told _ 1 1 [layL l0 F 0] _ x0 (by omega) (RdL.one _ _ rfl _ _ _ m c _ (hh.own.rd (layL_byte heb F u0)) hcap hcm) (by rw [flat1]; exact Hx0.out)).mono ?_
  rintro e w5 ⟨rfl, hb⟩
  have hh := hh.on (on_alloc hb)
  clear hb
  go_wp2_with fail
  refine (lay_any w.heap.size A m c _ fd x0 p F _ (by omega) Hm.out hp1 (by omega) HF.out ux0 hh.own).mono ?_
  rintro e w6 hlay
  have hh := hh.lay hlay
  obtain ⟨rfl, -, -, -⟩ := hlay
  obtain ⟨l, hl⟩ : ∃ l, layL (layL l0 F 0) F x0 = l := ⟨_, rfl⟩
  rw [hl] at hh hinv
  clear hl
  go_wp2_with fail
  refine (right_told _ 1 1 [l] _ true (by omega) (RdL.one _ _ rfl _ _ _ m c _ (hh.own.rd hinv.byte) hcap hcm) (by rw [flat1, hinv.right]; rfl)).mono ?_
  rintro e w7 ⟨rfl, hb⟩
  have hh := hh.on (on_alloc hb)
  clear hb
  go_wp2_with fail
  obtain ⟨z, ez⟩ : ∃ z, decide (restL l F = 0) = z := ⟨_, rfl⟩
  have hzz := fun W h => zeros_any A m c l fd p F W (by omega) Hm.out hp1 (by omega) HF.out h
  rw [ez] at hzz
  have Hzz := Lib.hid hzz
  clear ez hzz
  cases z
  · refine (Hzz.out w7 (hh.own.rd hinv.byte)).mono ?_
    rintro e w' ⟨rfl, rfl⟩
    clear Hzz
    go_wp2_with fail
    refine (right_told _ 1 1 [l] _ true (by omega) (RdL.one _ _ rfl _ _ _ m c _ (hh.own.rd hinv.byte) hcap hcm) (by rw [flat1, hinv.right]; rfl)).mono ?_
    rintro e w8 ⟨rfl, hb⟩
    have hh := hh.on (on_alloc hb)
    clear hb
    go_wp2_with fail
    go_loopg [10] n3 (fun gk i wr => ∃ (k : Nat) (l : List Int), Hid (gk + k = n3) ∧ k ≤ n3 ∧ (k : Int) ≤ 20 ∧ i = .int .i64 (k : Int) ∧ Inv m l ∧ Hold w A m c l wr)
    case atStart => exact ⟨0, l, rfl, Nat.zero_le _, by omega, rfl, hinv, hh⟩
    case round =>
      clear hh hinv
      obtain ⟨k, l, hgk, hk, hk20, rfl, hinv, hh⟩ := hrel
      by_cases hlt : k < n3
      · by_cases hlt20 : (k : Int) < 20
        · obtain ⟨K, hK⟩ : ∃ K : Nat, (at_ + (k : Int)) % (p : Int) = (K : Int) := ⟨((at_ + (k : Int)) % (p : Int)).toNat, by have := Int.emod_nonneg (at_ + (k : Int)) (show (p : Int) ≠ 0 by omega); omega⟩
          have hKp : K < p := by have := Int.emod_lt_of_pos (at_ + (k : Int)) (show (0 : Int) < (p : Int) by omega); omega
          have HK := Lib.hid hK
          have hFq := HF.out
          have hq : (m : Int) / 2 = (p : Int) := by have := Hm.out; omega
          have hp1I : 1 ≤ (p : Int) := by omega
          have hp0 : ((p : Int) == 0) = false := by simp; omega
          have hadd : IntKind.i64.wrap (at_ + (k : Int)) = at_ + (k : Int) := IntWalk.i64_in _ (by omega)
          by_cases hKF : K = F
          · rw [hKF] at hK
            clear hKF HK
            go_wp2_with fail
            go_quiet (fail)
            go_wp2_with fail
            go_roundg (gk - 1)
            case measure => have := hgk.out; omega
            case rel => exact ⟨k + 1, l, by have := hgk.out; show gk - 1 + (k + 1) = _; omega, by omega, by omega, by go_num, hinv, hh.drewN _⟩
          · have hneI : ((K : Int) == (F : Int)) = false := by simp; omega
            have hneI2 : ¬ (K : Int) = (F : Int) := by omega
            go_wp2_with fail
            go_quiet (fail)
            go_wp2_with fail
            generalize hw9 : World.drewN wr _ = w9
            have hh9 : Hold w A m c l w9 := by rw [← hw9]; exact hh.drewN _
            clear hw9 hh hq hp0 hFq hK hneI hneI2
            have ux : U16 (lw.getD k 0) := getD_u16 r3.u16 k
            obtain ⟨q, eq, dq, bq⟩ := r3.index (c := c3) hlt
            obtain ⟨x, ex⟩ : ∃ x, lw.getD k 0 = x := ⟨_, rfl⟩
            rw [ex] at ux dq
            obtain ⟨l2, el2⟩ : ∃ l2, layL (layL l K x) F 0 = l2 := ⟨_, rfl⟩
            obtain ⟨nx, enx⟩ : ∃ nx, wordF (wordL l F) (wordL l K) x = nx := ⟨_, rfl⟩
            obtain ⟨an, ean⟩ : ∃ an, 65535 - sumL l2 = an := ⟨_, rfl⟩
            obtain ⟨l3, el3⟩ : ∃ l3, layL l2 F nx = l3 := ⟨_, rfl⟩
            obtain ⟨unx, uan, hb2, hb3, hl2, hl3, hz1, hz2⟩ := inv_named hinv Hm.out hKp HFp.out hKF ux el2 enx ean el3
            have hF1 : ∀ w', Hold w A m c l w' → w'.cell? q = some (.int .u16 x) := fun w' h => (Below.cell h.old bq).trans dq
            have F1 := Lib.hid hF1
            have uF := wordL_bd hinv.byte F
            have uK := wordL_bd hinv.byte K
            have hbyte : ∀ x ∈ l, 0 ≤ x ∧ x < 256 := hinv.byte
            have Hel2 := Lib.hid el2
            have Henx := Lib.hid enx
            have Hean := Lib.hid ean
            have Hel3 := Lib.hid el3
            have Hz1 := Lib.hid hz1
            have Hz2 := Lib.hid hz2
            clear ex el2 enx ean el3 hz1 hz2 hF1 dq bq hKF hinv
            have hm47 : m ≤ 140737488355328 := by omega
            have hatk : 0 ≤ at_ + (k : Int) := by omega
            have hne := class_const (C := Hold w A m c l) ⟨_, hh9⟩
            refine region_class (C := Hold w A m c l) (by kernel_rfl) (by kernel_rfl) (hh9.drawn _) ?_
            repeat (first | go_big_quiet_skip | (go_big_quiet_want; first | (refine quiet_ld 25 _ q (.int .u16 x) rfl rfl (ld_u16 q x) F1.out ?_; simp only [Act.put, List.setIfInBounds_toArray, List.set_cons_zero, List.set_cons_succ]; go_big_quiet_on) | (go_big_quiet_op; first | go_big_quiet_on | go_big_quiet_call ((intro hS; first | (go_at_call 26; (with_reducible refine (word2_any A m c l fd p F _ hm47 Hm.out hp1 hfd0 HF.out (hS.own.rd hbyte)).mono ?_); rintro e w' ⟨rfl, n, rfl⟩; exact ⟨rfl, hS.drewN n⟩) | (go_at_call 26; (with_reducible refine (word2_any A m c l (at_ + (k : Int)) p K _ hm47 Hm.out hp1 hatk HK.out (hS.own.rd hbyte)).mono ?_); rintro e w' ⟨rfl, n, rfl⟩; exact ⟨rfl, hS.drewN n⟩) | (go_at_call 17; refine (word_any _ _ _ _ (by assumption) (by assumption) (by assumption)).mono ?_; rintro e w' ⟨rfl, rfl⟩; exact ⟨rfl, hS⟩))))))
            refine wpQuiet_nil ?_
            clear hne hh9
            intro w10 hh
            rw [Henx.out]
            have hcell := F1.out w10 hh
            clear Henx F1 uF uK
            go_wp2_with fail
            refine (lay_any w.heap.size A m c _ (at_ + (k : Int)) x p K _ (by omega) Hm.out hp1 (by omega) HK.out ux hh.own).mono ?_
            rintro e w11 hlay
            have hh := hh.lay hlay
            obtain ⟨rfl, -, -, -⟩ := hlay
            clear hcell
            go_wp2_with fail
            refine (lay_any w.heap.size A m c _ fd 0 p F _ (by omega) Hm.out hp1 (by omega) HF.out u0 hh.own).mono ?_
            rintro e w12 hlay
            have hh := hh.lay hlay
            obtain ⟨rfl, -, -, -⟩ := hlay
            rw [Hel2.out] at hh
            go_wp2_with fail
            refine (field_told _ 1 1 [l2] _ an (by omega) (RdL.one _ _ rfl _ _ _ m c _ (hh.own.rd hb2) hcap hcm) (by rw [flat1]; exact Hean.out)).mono ?_
            rintro e w13 ⟨rfl, hb⟩
            have hh := hh.on (on_alloc hb)
            clear hb
            go_wp2_with fail
            refine (lay_any w.heap.size A m c _ fd nx p F _ (by omega) Hm.out hp1 (by omega) HF.out unx hh.own).mono ?_
            rintro e w14 hlay
            have hh := hh.lay hlay
            obtain ⟨rfl, -, -, -⟩ := hlay
            rw [Hel3.out] at hh
            obtain ⟨z, ez⟩ : ∃ z, decide (restL l3 F = 0) = z := ⟨_, rfl⟩
            have hzz := zeros_any A m c l3 fd p F w14 (by omega) Hm.out hp1 (by omega) HF.out (hh.own.rd hb3)
            rw [ez] at hzz
            have Hzz := Lib.hid hzz
            clear hzz
            cases z
            · have hz : restL l3 F ≠ 0 := by simpa using ez
              obtain ⟨hinv3, hlk⟩ := Hz2.out hz
              have Hlk := Lib.hid hlk
              clear ez hz hlk
              go_wp2_with fail
              refine Hzz.out.mono ?_
              rintro e w' ⟨rfl, rfl⟩
              clear Hzz
              go_wp2_with fail
              refine (right_told _ 1 1 [l3] _ true (by omega) (RdL.one _ _ rfl _ _ _ m c _ (hh.own.rd hb3) hcap hcm) (by rw [flat1, hinv3.right]; rfl)).mono ?_
              rintro e w15 ⟨rfl, hb⟩
              have hh := hh.on (on_alloc hb)
              clear hb
              go_wp2_with fail
              refine (like_any nx an w15).mono ?_
              rintro e w' ⟨rfl, rfl⟩
              rw [Hlk.out]
              go_wp2_with fail
              go_roundg (gk - 1)
              case measure => have := hgk.out; omega
              case rel => exact ⟨k + 1, l3, by have := hgk.out; show gk - 1 + (k + 1) = _; omega, by omega, by omega, by go_num, hinv3, hh⟩
            · have hz : restL l3 F = 0 := by simpa using ez
              have hinv4 := Hz1.out hz
              clear ez hz
              go_wp2_with fail
              refine Hzz.out.mono ?_
              rintro e w' ⟨rfl, rfl⟩
              clear Hzz
              go_wp2_with fail
              refine (lay_any w.heap.size A m c _ fd an p F _ (by omega) Hm.out hp1 (by omega) HF.out uan hh.own).mono ?_
              rintro e w15 hlay
              have hh := hh.lay hlay
              obtain ⟨rfl, -, -, -⟩ := hlay
              go_wp2_with fail
              go_roundg (gk - 1)
              case measure => have := hgk.out; omega
              case rel => exact ⟨k + 1, _, by have := hgk.out; show gk - 1 + (k + 1) = _; omega, by omega, by omega, by go_num, hinv4, hh⟩
        · go_wp2_with (go_at_call 16; refine (wakes_any _).mono ?_; rintro e w1 ⟨rfl, hbel⟩)
          go_ret
          exact ⟨rfl, below_trans hh.old hbel⟩
      · go_wp2_with (go_at_call 16; refine (wakes_any _).mono ?_; rintro e w1 ⟨rfl, hbel⟩)
        go_ret
        exact ⟨rfl, below_trans hh.old hbel⟩
  · refine (Hzz.out w7 (hh.own.rd hinv.byte)).mono ?_
    rintro e w' ⟨rfl, rfl⟩
    go_wp2_with fail
    refine (Hzz.out w7 (hh.own.rd hinv.byte)).mono ?_
    rintro e w' ⟨rfl, rfl⟩
    clear Hzz
    go_wp2_with fail
    refine (right_told _ 1 1 [l] _ true (by omega) (RdL.one _ _ rfl _ _ _ m c _ (hh.own.rd hinv.byte) hcap hcm) (by rw [flat1, hinv.right]; rfl)).mono ?_
    rintro e w8 ⟨rfl, hb⟩
    have hh := hh.on (on_alloc hb)
    clear hb
    go_wp2_with fail
    go_loopg [10] n3 (fun gk i wr => ∃ (k : Nat) (l : List Int), Hid (gk + k = n3) ∧ k ≤ n3 ∧ (k : Int) ≤ 20 ∧ i = .int .i64 (k : Int) ∧ Inv m l ∧ Hold w A m c l wr)
    case atStart => exact ⟨0, l, rfl, Nat.zero_le _, by omega, rfl, hinv, hh⟩
    case round =>
      clear hh hinv
      obtain ⟨k, l, hgk, hk, hk20, rfl, hinv, hh⟩ := hrel
      by_cases hlt : k < n3
      · by_cases hlt20 : (k : Int) < 20
        · obtain ⟨K, hK⟩ : ∃ K : Nat, (at_ + (k : Int)) % (p : Int) = (K : Int) := ⟨((at_ + (k : Int)) % (p : Int)).toNat, by have := Int.emod_nonneg (at_ + (k : Int)) (show (p : Int) ≠ 0 by omega); omega⟩
          have hKp : K < p := by have := Int.emod_lt_of_pos (at_ + (k : Int)) (show (0 : Int) < (p : Int) by omega); omega
          have HK := Lib.hid hK
          have hFq := HF.out
          have hq : (m : Int) / 2 = (p : Int) := by have := Hm.out; omega
          have hp1I : 1 ≤ (p : Int) := by omega
          have hp0 : ((p : Int) == 0) = false := by simp; omega
          have hadd : IntKind.i64.wrap (at_ + (k : Int)) = at_ + (k : Int) := IntWalk.i64_in _ (by omega)
          by_cases hKF : K = F
          · rw [hKF] at hK
            clear hKF HK
            go_wp2_with fail
            go_quiet (fail)
            go_wp2_with fail
            go_roundg (gk - 1)
            case measure => have := hgk.out; omega
            case rel => exact ⟨k + 1, l, by have := hgk.out; show gk - 1 + (k + 1) = _; omega, by omega, by omega, by go_num, hinv, hh.drewN _⟩
          · have hneI : ((K : Int) == (F : Int)) = false := by simp; omega
            have hneI2 : ¬ (K : Int) = (F : Int) := by omega
            go_wp2_with fail
            go_quiet (fail)
            go_wp2_with fail
            generalize hw9 : World.drewN wr _ = w9
            have hh9 : Hold w A m c l w9 := by rw [← hw9]; exact hh.drewN _
            clear hw9 hh hq hp0 hFq hK hneI hneI2
            have ux : U16 (lw.getD k 0) := getD_u16 r3.u16 k
            obtain ⟨q, eq, dq, bq⟩ := r3.index (c := c3) hlt
            obtain ⟨x, ex⟩ : ∃ x, lw.getD k 0 = x := ⟨_, rfl⟩
            rw [ex] at ux dq
            obtain ⟨l2, el2⟩ : ∃ l2, layL (layL l K x) F 0 = l2 := ⟨_, rfl⟩
            obtain ⟨nx, enx⟩ : ∃ nx, wordF (wordL l F) (wordL l K) x = nx := ⟨_, rfl⟩
            obtain ⟨an, ean⟩ : ∃ an, 65535 - sumL l2 = an := ⟨_, rfl⟩
            obtain ⟨l3, el3⟩ : ∃ l3, layL l2 F nx = l3 := ⟨_, rfl⟩
            obtain ⟨unx, uan, hb2, hb3, hl2, hl3, hz1, hz2⟩ := inv_named hinv Hm.out hKp HFp.out hKF ux el2 enx ean el3
            have hF1 : ∀ w', Hold w A m c l w' → w'.cell? q = some (.int .u16 x) := fun w' h => (Below.cell h.old bq).trans dq
            have F1 := Lib.hid hF1
            have uF := wordL_bd hinv.byte F
            have uK := wordL_bd hinv.byte K
            have hbyte : ∀ x ∈ l, 0 ≤ x ∧ x < 256 := hinv.byte
            have Hel2 := Lib.hid el2
            have Henx := Lib.hid enx
            have Hean := Lib.hid ean
            have Hel3 := Lib.hid el3
            have Hz1 := Lib.hid hz1
            have Hz2 := Lib.hid hz2
            clear ex el2 enx ean el3 hz1 hz2 hF1 dq bq hKF hinv
            have hm47 : m ≤ 140737488355328 := by omega
            have hatk : 0 ≤ at_ + (k : Int) := by omega
            have hne := class_const (C := Hold w A m c l) ⟨_, hh9⟩
            refine region_class (C := Hold w A m c l) (by kernel_rfl) (by kernel_rfl) (hh9.drawn _) ?_
            repeat (first | go_big_quiet_skip | (go_big_quiet_want; first | (refine quiet_ld 25 _ q (.int .u16 x) rfl rfl (ld_u16 q x) F1.out ?_; simp only [Act.put, List.setIfInBounds_toArray, List.set_cons_zero, List.set_cons_succ]; go_big_quiet_on) | (go_big_quiet_op; first | go_big_quiet_on | go_big_quiet_call ((intro hS; first | (go_at_call 26; (with_reducible refine (word2_any A m c l fd p F _ hm47 Hm.out hp1 hfd0 HF.out (hS.own.rd hbyte)).mono ?_); rintro e w' ⟨rfl, n, rfl⟩; exact ⟨rfl, hS.drewN n⟩) | (go_at_call 26; (with_reducible refine (word2_any A m c l (at_ + (k : Int)) p K _ hm47 Hm.out hp1 hatk HK.out (hS.own.rd hbyte)).mono ?_); rintro e w' ⟨rfl, n, rfl⟩; exact ⟨rfl, hS.drewN n⟩) | (go_at_call 17; refine (word_any _ _ _ _ (by assumption) (by assumption) (by assumption)).mono ?_; rintro e w' ⟨rfl, rfl⟩; exact ⟨rfl, hS⟩))))))
            refine wpQuiet_nil ?_
            clear hne hh9
            intro w10 hh
            rw [Henx.out]
            have hcell := F1.out w10 hh
            clear Henx F1 uF uK
            go_wp2_with fail
            refine (lay_any w.heap.size A m c _ (at_ + (k : Int)) x p K _ (by omega) Hm.out hp1 (by omega) HK.out ux hh.own).mono ?_
            rintro e w11 hlay
            have hh := hh.lay hlay
            obtain ⟨rfl, -, -, -⟩ := hlay
            clear hcell
            go_wp2_with fail
            refine (lay_any w.heap.size A m c _ fd 0 p F _ (by omega) Hm.out hp1 (by omega) HF.out u0 hh.own).mono ?_
            rintro e w12 hlay
            have hh := hh.lay hlay
            obtain ⟨rfl, -, -, -⟩ := hlay
            rw [Hel2.out] at hh
            go_wp2_with fail
            refine (field_told _ 1 1 [l2] _ an (by omega) (RdL.one _ _ rfl _ _ _ m c _ (hh.own.rd hb2) hcap hcm) (by rw [flat1]; exact Hean.out)).mono ?_
            rintro e w13 ⟨rfl, hb⟩
            have hh := hh.on (on_alloc hb)
            clear hb
            go_wp2_with fail
            refine (lay_any w.heap.size A m c _ fd nx p F _ (by omega) Hm.out hp1 (by omega) HF.out unx hh.own).mono ?_
            rintro e w14 hlay
            have hh := hh.lay hlay
            obtain ⟨rfl, -, -, -⟩ := hlay
            rw [Hel3.out] at hh
            obtain ⟨z, ez⟩ : ∃ z, decide (restL l3 F = 0) = z := ⟨_, rfl⟩
            have hzz := zeros_any A m c l3 fd p F w14 (by omega) Hm.out hp1 (by omega) HF.out (hh.own.rd hb3)
            rw [ez] at hzz
            have Hzz := Lib.hid hzz
            clear hzz
            cases z
            · have hz : restL l3 F ≠ 0 := by simpa using ez
              obtain ⟨hinv3, hlk⟩ := Hz2.out hz
              have Hlk := Lib.hid hlk
              clear ez hz hlk
              go_wp2_with fail
              refine Hzz.out.mono ?_
              rintro e w' ⟨rfl, rfl⟩
              clear Hzz
              go_wp2_with fail
              refine (right_told _ 1 1 [l3] _ true (by omega) (RdL.one _ _ rfl _ _ _ m c _ (hh.own.rd hb3) hcap hcm) (by rw [flat1, hinv3.right]; rfl)).mono ?_
              rintro e w15 ⟨rfl, hb⟩
              have hh := hh.on (on_alloc hb)
              clear hb
              go_wp2_with fail
              refine (like_any nx an w15).mono ?_
              rintro e w' ⟨rfl, rfl⟩
              rw [Hlk.out]
              go_wp2_with fail
              go_roundg (gk - 1)
              case measure => have := hgk.out; omega
              case rel => exact ⟨k + 1, l3, by have := hgk.out; show gk - 1 + (k + 1) = _; omega, by omega, by omega, by go_num, hinv3, hh⟩
            · have hz : restL l3 F = 0 := by simpa using ez
              have hinv4 := Hz1.out hz
              clear ez hz
              go_wp2_with fail
              refine Hzz.out.mono ?_
              rintro e w' ⟨rfl, rfl⟩
              clear Hzz
              go_wp2_with fail
              refine (lay_any w.heap.size A m c _ fd an p F _ (by omega) Hm.out hp1 (by omega) HF.out uan hh.own).mono ?_
              rintro e w15 hlay
              have hh := hh.lay hlay
              obtain ⟨rfl, -, -, -⟩ := hlay
              go_wp2_with fail
              go_roundg (gk - 1)
              case measure => have := hgk.out; omega
              case rel => exact ⟨k + 1, _, by have := hgk.out; show gk - 1 + (k + 1) = _; omega, by omega, by omega, by go_num, hinv4, hh⟩
        · go_wp2_with (go_at_call 16; refine (wakes_any _).mono ?_; rintro e w1 ⟨rfl, hbel⟩)
          go_ret
          exact ⟨rfl, below_trans hh.old hbel⟩
      · go_wp2_with (go_at_call 16; refine (wakes_any _).mono ?_; rintro e w1 ⟨rfl, hbel⟩)
        go_ret
        exact ⟨rfl, below_trans hh.old hbel⟩

theorem own : ownKnob Try.prog.godebug = none := by kernel_rfl
theorem laidOut : laidOutB Try.prog = true := by kernel_rfl

set_option maxRecDepth 100000 in
theorem lifted (os : Os) (started : os.Started) (H : Type) (enc : TypeId × Value → H) :
    ReturnsInHanded {} Try.checked os 5 .any (Rows.sumChangesSpec.pre6 enc Try.prog Try.f5 Rows.sumChangesRow.domain false) (Rows.sumChangesSpec.post enc Try.prog Try.f5 false true false false) := by
  refine returnsInHanded_of_change_sized (C := Try.checked) own started (by kernel_rfl) Try.func5
    (ChangeSpec.witness6 (enc := enc) (C := Try.checked) false ⟨#[], #[(.slice none 0 0), .int .u16 0, .int .u16 0, (.slice none 0 0)], []⟩ 8 (by kernel_rfl) (by kernel_rfl) (by kernel_rfl) (by kernel_rfl)) ?_
  intro W base args ds gs before hval0 hW hcnd hsz0 _
  have hsz : (DataW.weightsEach Try.prog (Try.f5.params.toList ++ Rows.sumChangesSpec.plain.varTypes Try.prog) (ds ++ gs)).all (· ≤ reachBytes) = true := hsz0
  have hval : ∀ (j : Nat) t v, Try.f5.params[j]? = some t → args[j]? = some v → Value.okWide Try.prog W .any base t v := hval0
  have hW' := hW
  obtain ⟨p, q, hA0, hV, rfl, hfz, hnd⟩ := hW
  have hA : DataW.TrodAll enc Try.prog W 0 (fun _ => true) true Try.f5.params.toList args.toList ds p := hA0
  rw [Try.params5] at hA hval hsz
  obtain ⟨v0, vs0, d0, ds0, p0, q0, hargs, rfl, rfl, h0, r0⟩ := trodAll_cons hA
  obtain ⟨v1, vs1, d1, ds1, p1, q1, rfl, rfl, rfl, h1, r1⟩ := trodAll_cons r0
  obtain ⟨v2, vs2, d2, ds2, p2, q2, rfl, rfl, rfl, h2, r2⟩ := trodAll_cons r1
  obtain ⟨v3, vs3, d3, ds3, p3, q3, rfl, rfl, rfl, h3, r3⟩ := trodAll_cons r2
  obtain ⟨rfl, rfl, rfl⟩ := trodAll_nil r3
  obtain rfl : args = #[v0, v1, v2, v3] := by cases args; simp_all
  obtain ⟨rfl, rfl⟩ := trodVars_none hV
  have k0 := bytes_open (hval 0 23 v0 rfl rfl) h0 (fun elems spare e => by subst e; exact sized_slice hsz (j := 0) (t := 23) (e := 5) rfl rfl Try.underlying23)
  have lt0 : ∀ x ∈ p0, x.block < W.heap.size := by obtain ⟨m, hm⟩ := h0; exact DataW.trod_lt m _ _ _ hm
  obtain ⟨a1, rfl, rfl, rfl, w1⟩ := open_int Try.underlying25 (hval 1 25 v1 rfl rfl) h1
  obtain ⟨a2, rfl, rfl, rfl, w2⟩ := open_int Try.underlying25 (hval 2 25 v2 rfl rfl) h2
  have k3 := u16s_open (hval 3 36 v3 rfl rfl) h3 (fun elems spare e => by subst e; exact sized_slice hsz (j := 3) (t := 36) (e := 25) rfl rfl Try.underlying36)
  have lt3 : ∀ x ∈ p3, x.block < W.heap.size := by obtain ⟨m, hm⟩ := h3; exact DataW.trod_lt m _ _ _ hm
  clear hA0 hval0
  refine (walk W v0 k0 a1 w1 a2 w2 v3 k3).mono fun e W' ⟨he, bel⟩ => ?_
  subst he
  exact ⟨_, rfl, _, _, _, [], _, [], hW', trodAll_mk1 (shut_bool Try.underlying4 _), (trodAll_cons_mk (Below.trod laidOut (by kernel_rfl) (of_decide_eq_true (by kernel_rfl)) h0 bel lt0) (trodAll_cons_mk (shut_int Try.underlying25 w1) (trodAll_cons_mk (shut_int Try.underlying25 w2) (trodAll_cons_mk (Below.trod laidOut (by kernel_rfl) (of_decide_eq_true (by kernel_rfl)) h3 bel lt3) trodAll_mk0)))), rfl, bel.frame _, fun h => by cases h⟩

theorem over : Rows.sumChangesRow.holds Try.pinned (OpenSpec.ofChange Rows.sumChangesSpec) :=
  OpenClaim.holds_of_wide 5 Try.f5 rfl rfl rfl rfl rfl rfl rfl ⟨rfl, rfl, rfl, rfl, rfl⟩ rfl rfl rfl rfl rfl (by kernel_rfl) Try.func5 (by kernel_rfl)
    (of_decide_eq_true (by kernel_rfl)) (by unfold Func.isWrapper; first | (rw [if_pos (by decide +kernel)]; kernel_rfl) | (rw [if_neg (by decide +kernel)]; exact ⟨rfl, rfl⟩))
    (fun os started H enc _ => lifted os started H enc)

/-- The statement. -/
theorem proved : Rows.SumChangesSaid := over
#print axioms proved
end Go.Proofs.Ytghpndcninbniaa.sumChanges
