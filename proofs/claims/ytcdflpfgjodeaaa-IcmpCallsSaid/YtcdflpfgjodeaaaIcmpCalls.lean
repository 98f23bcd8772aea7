/-
  IcmpCalls holds: any message's bytes, any bytes as a message, each call of any message are the document's; all stays, and what is told lives apart. For any two messages, any bytes, any id.
-/
import Derived.Test.YtcdflpfgjodeaaaIcmpLaw
import Derived.Test.YtcdflpfgjodeaaaIcmpBoth
import Derived.Test.YtcdflpfgjodeaaaIcmpOpen
import Derived.Test.YtcdflpfgjodeaaaSpoil
import Derived.Test.YtcdflpfgjodeaaaIndex3
import Derived.Test.YtcdflpfgjodeaaaSumOpen
import Derived.RegionTactic
import Derived.BigRegion
import Derived.Deep.DeepCutAuto
import Derived.Deep.CutRange
import Derived.Deep.RegionHeld3
import Derived.Laws.BitsLemmas
namespace Go.Proofs.Ytcdflpfgjodeaaa.icmpCalls
set_option maxRecDepth 10000
open Go.ChangeShapes Go.WideShapes Go.ChangeAt Go.RowKit
set_option linter.unusedVariables false
set_option linter.unusedSimpArgs false

set_option maxHeartbeats 8000000 in
theorem walk (w : World) (v : Value) (hv : MsgTo 140737488355328 w v) (v1 : Value) (hv1 : MsgTo 140737488355328 w v1) (v2 : Value) (hv2 : BytesAt w v2) (id : Int) (w3 : (Lit.int .u16 id).wf = true) :
    Calls Try.prog 3 #[v, v1, v2, .int .u16 id] w fun e w' => e = .returned (.bool true) ∧ Below w.heap.size w w' := by
  obtain ⟨s, A, n, c, rfl, hnum, hc, hr, hnm⟩ := hv
  obtain ⟨t, A', n', c', rfl, hnum', hc', hr', hnm'⟩ := hv1
  obtain ⟨Ab, nb, cb, b, rfl, hcb, hcb2, hrb⟩ := hv2
  have hid := bounds_u16 w3
  have hid : 0 ≤ id ∧ id < 65536 := by omega
  have hdl := hr.len
  have hrs := hnum.rs
  obtain ⟨ty, cd, rs, d⟩ := s
  obtain ⟨ty', cd', rs', d'⟩ := t
  simp only at hr hr' hdl hrs ⊢
  obtain ⟨z, hz⟩ : ∃ z, w.heap.size = z := ⟨_, rfl⟩
  obtain ⟨W0, eW0⟩ : ∃ W0, (w.alloc (.cells #[.int .u8 ty, .int .u8 cd, .int .u32 rs, .slice A n c] 25)).alloc (.cells #[.int .u8 ty', .int .u8 cd', .int .u32 rs', .slice A' n' c'] 25) = W0 := ⟨_, rfl⟩
  have hbW : Below w.heap.size w W0 := by rw [← eW0]; exact ((Below.refl _ _).alloc (Nat.le_refl _) _).alloc (by simp) _
  have hk0 : W0.heap[z]? = some (.cells #[.int .u8 ty, .int .u8 cd, .int .u32 rs, .slice A n c] 25 (0, 0)) := by rw [← eW0, Below.heap_alloc _ _ _ (by simp [hz]), ← hz]; exact heap_alloc_new w _
  have hk1 : W0.heap[z + 1]? = some (.cells #[.int .u8 ty', .int .u8 cd', .int .u32 rs', .slice A' n' c'] 25 (0, 0)) := by
    rw [← eW0, ← hz]; simpa using heap_alloc_new (w.alloc (.cells #[.int .u8 ty, .int .u8 cd, .int .u32 rs, .slice A n c] 25)) (.cells #[.int .u8 ty', .int .u8 cd', .int .u32 rs', .slice A' n' c'] 25)
  have HK := Lib.hid (show ∀ w', Below W0.heap.size W0 w' → ((w'.cell? ⟨z, 0, none⟩ = some (.int .u8 ty) ∧ w'.cell? ⟨z, 1, none⟩ = some (.int .u8 cd) ∧ w'.cell? ⟨z, 2, none⟩ = some (.int .u32 rs) ∧ w'.cell? ⟨z, 3, none⟩ = some (.slice A n c)) ∧ (w'.cell? ⟨z + 1, 0, none⟩ = some (.int .u8 ty') ∧ w'.cell? ⟨z + 1, 1, none⟩ = some (.int .u8 cd') ∧ w'.cell? ⟨z + 1, 2, none⟩ = some (.int .u32 rs') ∧ w'.cell? ⟨z + 1, 3, none⟩ = some (.slice A' n' c'))) ∧ Rd w' A n d ∧ Rd w' A' n' d' ∧ Rd w' Ab nb b from
    fun w' hb => ⟨⟨cells4 (blk_on hk0 hb), cells4 (blk_on hk1 hb)⟩, (hr.below hbW).below hb, (hr'.below hbW).below hb, (hrb.below hbW).below hb⟩)
  have HbW := Lib.hid hbW
  have HeW := Lib.hid eW0
  have Hnum := Lib.hid hnum
  have Hnum' := Lib.hid hnum'
  have Hc := Lib.hid hc
  have HdB := Lib.hid hr.byte
  have HbB := Lib.hid hrb.byte
  have HidB := Lib.hid hid
  have hcb3 : nb ≤ cb ∧ cb ≤ maxLen := ⟨hcb, by unfold maxLen; omega⟩
  have Hcb := Lib.hid hcb3
  have hnb2 : 0 + nb ≤ 140737488355328 := by omega
  have hnb3 : nb ≤ 140737488355328 := by omega
  obtain ⟨x, ex⟩ : ∃ x, sortM ty cd = x := ⟨_, rfl⟩
  have Ex := Lib.hid ex
  obtain ⟨L, eL⟩ : ∃ L, toldM ⟨ty, cd, rs, d⟩ = L := ⟨_, rfl⟩
  obtain ⟨M, eM⟩ : ∃ M, L.length = M := ⟨_, rfl⟩
  obtain ⟨ep, eep⟩ : ∃ x, errP ⟨ty, cd, rs, d⟩ = x := ⟨_, rfl⟩
  have hLb := toldM_by hnum hr.byte
  rw [eL] at hLb
  have HLb := Lib.hid hLb
  have EL := Lib.hid eL
  have EM := Lib.hid eM
  have EP := Lib.hid eep
  obtain ⟨tm, etm⟩ : ∃ t, parsedM b = t := ⟨_, rfl⟩
  have htb := parsedM_num hrb.byte
  rw [etm] at htb
  obtain ⟨ub, ueb⟩ : ∃ x, errM b = x := ⟨_, rfl⟩
  obtain ⟨uty, ucd, urs, ud⟩ := tm
  obtain ⟨um, eum⟩ : ∃ x, ud.length = x := ⟨_, rfl⟩
  have humb : um ≤ 140737488355328 := by
    have h1 : (parsedM b).d.length ≤ b.length := by
      unfold parsedM
      split
      · simp [msgOf]
      · simp [zeroM]
    rw [etm] at h1
    simp only at h1
    rw [eum, hrb.len] at h1
    omega
  have HtB := Lib.hid (show ∀ x ∈ ud, 0 ≤ x ∧ x < 256 from htb)
  have ET := Lib.hid etm
  have EU := Lib.hid ueb
  have EUM := Lib.hid eum
  have HrA := Lib.hid (HK.out _ (Below.refl _ _)).2.2.2
  clear hk0 hk1 hbW eW0 hr hr' hrb hnum hnum' hc hc' hdl w3 hid ex eL eM eep hLb etm htb ueb eum hcb hcb2 hcb3
  go_enter Try.func3, Try.ntmps3
  go_upto_region 1 with (fail)
  rw [HeW.out]
  go_upto_region 2 with (refine wpList_app rfl (.const (.slice none 0 0)) (.tmp 31) rfl W0.heap.size none Ab 0 0 nb cb [] b rfl rfl (OwnB.nil _ _) HrA.out hnb2 (Nat.le_refl _) ?_; intro A7 c7 w2 ho2 hg2 hb2 hat2)
  have HO := Lib.hid (show OwnB w2 W0.heap.size A7 nb c7 b by simpa using ho2)
  have Hb := Lib.hid hb2
  have Hc7 := Lib.hid (And.intro HO.out.cap HO.out.capMax)
  clear ho2 hg2 hb2 hat2
  obtain ⟨⟨⟨c0, c1, c2, c3⟩, -⟩, -⟩ := HK.out _ Hb.out
  try simp only [Nat.zero_add]
  go_wp2_with fail
  refine (put8_any ⟨ty, cd, rs, d⟩ A n c _ L M ep Hnum.out Hc.out (HK.out _ Hb.out).2.1 EP.out EL.out EM.out).mono ?_
  rintro e w4 ⟨AX, cX, rfl, -, -, hoX, hb4⟩
  have HX := Lib.hid (hoX.rd HLb.out)
  have Hb := Lib.hid (below_trans Hb.out hb4)
  have HO := Lib.hid (HO.out.on hb4)
  clear c0 c1 c2 c3 hb4 hoX
  obtain ⟨⟨⟨c0, c1, c2, c3⟩, -⟩, -⟩ := HK.out _ Hb.out
  go_wp2_with fail
  refine (rput8_any ⟨ty, cd, rs, d⟩ A n c _ L M ep Hnum.out (HK.out _ Hb.out).2.1 EP.out EL.out EM.out).mono ?_
  rintro e w5 ⟨AY, cY, rfl, -, -, hoY, hb5⟩
  have HX := Lib.hid (HX.out.below hb5)
  have HY := Lib.hid (hoY.rd HLb.out)
  have Hb := Lib.hid (below_trans Hb.out hb5)
  have HO := Lib.hid (HO.out.on hb5)
  clear c0 c1 c2 c3 hb5 hoY
  go_wp2_with fail
  refine (parse8_both A7 nb c7 um b ⟨uty, ucd, urs, ud⟩ ub _ Hc7.out (HO.out.rd HbB.out) EU.out ET.out EUM.out).mono ?_
  rintro e w6 ⟨AU, cU, rfl, hcU, hoU, hb6⟩
  obtain ⟨B8, eB8⟩ : ∃ B8, w5.heap.size = B8 := ⟨_, rfl⟩
  have EB8 := Lib.hid eB8
  have HbP := Hb
  have HOP := HO
  have hba := (Below.refl w6.heap.size w6).alloc (Nat.le_refl _) (.cells #[.int .u8 uty, .int .u8 ucd, .int .u32 urs, .slice AU um cU] 25)
  have HX := Lib.hid (HX.out.below (below_trans hb6 hba))
  have HY := Lib.hid (HY.out.below (below_trans hb6 hba))
  have HU := Lib.hid ((hoU.rd HtB.out).below hba)
  have HBU := Lib.hid ((ByRow.of hoU).below hba)
  rw [eB8] at HBU
  have Hlo := Lib.hid (show Below B8 w5 (w6.alloc (.cells #[.int .u8 uty, .int .u8 ucd, .int .u32 urs, .slice AU um cU] 25)) by rw [← eB8]; exact below_trans hb6 hba)
  have hkU := heap_alloc_new w6 (.cells #[.int .u8 uty, .int .u8 ucd, .int .u32 urs, .slice AU um cU] 25)
  obtain ⟨zu, ezu⟩ : ∃ z, w6.heap.size = z := ⟨_, rfl⟩
  rw [ezu] at hkU
  go_upto_region 5 with (fail)
  obtain ⟨v6, ev6⟩ : ∃ v, w6.alloc (.cells #[.int .u8 uty, .int .u8 ucd, .int .u32 urs, .slice AU um cU] 25) = v := ⟨_, rfl⟩
  try rw [ev6]
  try simp only [ezu]
  rw [ev6] at HX HY HU HBU Hlo hkU
  have hlo5 := Hlo.out
  rw [← eB8] at hlo5
  have Hb := Lib.hid (below_trans Hb.out hlo5)
  clear ev6 ezu hb6 hba hoU hcU hlo5 eB8
  go_wp2_with fail
  refine (rparse8_both Ab nb cb um b ⟨uty, ucd, urs, ud⟩ ub _ Hcb.out (HK.out _ Hb.out).2.2.2 EU.out ET.out EUM.out).mono ?_
  rintro e w7 ⟨AV, cV, rfl, hcV, hoV, hb7⟩
  have hba := (Below.refl w7.heap.size w7).alloc (Nat.le_refl _) (.cells #[.int .u8 uty, .int .u8 ucd, .int .u32 urs, .slice AV um cV] 25)
  have hbb := below_trans hb7 hba
  have HX := Lib.hid (HX.out.below hbb)
  have HY := Lib.hid (HY.out.below hbb)
  have HU := Lib.hid (HU.out.below hbb)
  have HBU := Lib.hid (HBU.out.below hbb)
  have HV := Lib.hid ((hoV.rd HtB.out).below hba)
  have Hlo := Lib.hid (Hlo.out.trans (hbb.mono (by have := Hlo.out.size; have := EB8.out; omega)))
  have Hb := Lib.hid (below_trans Hb.out hbb)
  have hkU := blk_on hkU hbb
  have hkV := heap_alloc_new w7 (.cells #[.int .u8 uty, .int .u8 ucd, .int .u32 urs, .slice AV um cV] 25)
  obtain ⟨zv, ezv⟩ : ∃ z, w7.heap.size = z := ⟨_, rfl⟩
  rw [ezv] at hkV
  go_upto_region 6 with (fail)
  obtain ⟨v7, ev7⟩ : ∃ v, w7.alloc (.cells #[.int .u8 uty, .int .u8 ucd, .int .u32 urs, .slice AV um cV] 25) = v := ⟨_, rfl⟩
  try rw [ev7]
  try simp only [ezv]
  rw [ev7] at HX HY HU HBU Hlo hkU hkV Hb HV
  have HkU := Lib.hid hkU
  have HkV := Lib.hid hkV
  clear ev7 ezv hb7 hba hbb hoV hcV hkU hkV
  obtain ⟨sm, esm⟩ : ∃ q, msgSame ⟨ty, cd, rs, d⟩ ⟨ty', cd', rs', d'⟩ = q := ⟨_, rfl⟩
  have Esm := Lib.hid esm
  clear esm
  have hdr := Below.drew (Below.refl v7.heap.size v7)
  have HX := Lib.hid (HX.out.below hdr)
  have HY := Lib.hid (HY.out.below hdr)
  have HU := Lib.hid (HU.out.below hdr)
  have HV := Lib.hid (HV.out.below hdr)
  have HBU := Lib.hid (HBU.out.below hdr)
  have Hb := Lib.hid (below_trans Hb.out hdr)
  have HkU := Lib.hid (blk_on HkU.out hdr)
  have HkV := Lib.hid (blk_on HkV.out hdr)
  have Hlo := Lib.hid (Hlo.out.trans (hdr.mono (by have := Hlo.out.size; have := EB8.out; omega)))
  go_upto_region 6 with (fail)
  obtain ⟨vd, evd⟩ : ∃ vd, v7.drew = vd := ⟨_, rfl⟩
  have HS6 := Lib.hid (show ∀ w', Below v7.drew.heap.size v7.drew w' → ((w'.cell? ⟨z, 0, none⟩ = some (.int .u8 ty) ∧ w'.cell? ⟨z, 1, none⟩ = some (.int .u8 cd) ∧ w'.cell? ⟨z, 2, none⟩ = some (.int .u32 rs) ∧ w'.cell? ⟨z, 3, none⟩ = some (.slice A n c)) ∧ (w'.cell? ⟨z + 1, 0, none⟩ = some (.int .u8 ty') ∧ w'.cell? ⟨z + 1, 1, none⟩ = some (.int .u8 cd') ∧ w'.cell? ⟨z + 1, 2, none⟩ = some (.int .u32 rs') ∧ w'.cell? ⟨z + 1, 3, none⟩ = some (.slice A' n' c'))) ∧ (w'.cell? ⟨zu, 0, none⟩ = some (.int .u8 uty) ∧ w'.cell? ⟨zu, 1, none⟩ = some (.int .u8 ucd) ∧ w'.cell? ⟨zu, 2, none⟩ = some (.int .u32 urs) ∧ w'.cell? ⟨zu, 3, none⟩ = some (.slice AU um cU)) ∧ (w'.cell? ⟨zv, 0, none⟩ = some (.int .u8 uty) ∧ w'.cell? ⟨zv, 1, none⟩ = some (.int .u8 ucd) ∧ w'.cell? ⟨zv, 2, none⟩ = some (.int .u32 urs) ∧ w'.cell? ⟨zv, 3, none⟩ = some (.slice AV um cV)) ∧ (convert 23 9 (.slice AX M cX)).run Try.prog w' = .ok (.string (strOfNums L)) w' ∧ (convert 23 9 (.slice AY M cY)).run Try.prog w' = .ok (.string (strOfNums L)) w' from
    fun w' hb => ⟨(HK.out _ (below_trans Hb.out hb)).1, cells4 (blk_on HkU.out hb), cells4 (blk_on HkV.out hb), conv_rd (HX.out.below hb) _, conv_rd (HY.out.below hb) _⟩)
  refine wp_region_held_drew (S := fun w' => ((w'.cell? ⟨z, 0, none⟩ = some (.int .u8 ty) ∧ w'.cell? ⟨z, 1, none⟩ = some (.int .u8 cd) ∧ w'.cell? ⟨z, 2, none⟩ = some (.int .u32 rs) ∧ w'.cell? ⟨z, 3, none⟩ = some (.slice A n c)) ∧ (w'.cell? ⟨z + 1, 0, none⟩ = some (.int .u8 ty') ∧ w'.cell? ⟨z + 1, 1, none⟩ = some (.int .u8 cd') ∧ w'.cell? ⟨z + 1, 2, none⟩ = some (.int .u32 rs') ∧ w'.cell? ⟨z + 1, 3, none⟩ = some (.slice A' n' c'))) ∧ (w'.cell? ⟨zu, 0, none⟩ = some (.int .u8 uty) ∧ w'.cell? ⟨zu, 1, none⟩ = some (.int .u8 ucd) ∧ w'.cell? ⟨zu, 2, none⟩ = some (.int .u32 urs) ∧ w'.cell? ⟨zu, 3, none⟩ = some (.slice AU um cU)) ∧ (w'.cell? ⟨zv, 0, none⟩ = some (.int .u8 uty) ∧ w'.cell? ⟨zv, 1, none⟩ = some (.int .u8 ucd) ∧ w'.cell? ⟨zv, 2, none⟩ = some (.int .u32 urs) ∧ w'.cell? ⟨zv, 3, none⟩ = some (.slice AV um cV)) ∧ (convert 23 9 (.slice AX M cX)).run Try.prog w' = .ok (.string (strOfNums L)) w' ∧ (convert 23 9 (.slice AY M cY)).run Try.prog w' = .ok (.string (strOfNums L)) w') (by kernel_rfl) (HS6.out _ (Below.refl _ _)) (fun hHeld => ?_)
  rw [evd] at HX HY HU HV HBU Hb HkU HkV Hlo HS6 hHeld ⊢
  clear evd hdr
  refine wpAnyH_take (i := 0) (oi := { dst := some 53, op := Go.Op.move (Go.Operand.tmp 10), type := 23, pos := "law.go:27", after := #[], guard := none }) (v := ?_) rfl (by kernel_rfl) (by kernel_rfl) (by kernel_rfl) (fun _ _ _ h => h) (Or.inl ⟨by rfl, ?_⟩) (by assumption) ?_
  rotate_left 1
  · intro w' hSw; (go_simp <;> (with_reducible rfl))
  (try simp only [Act.put, List.setIfInBounds_toArray, List.set_cons_zero, List.set_cons_succ])
  refine wpAnyH_take (i := 1) (oi := { dst := some 54, op := Go.Op.convert 23 9 (Go.Operand.tmp 53), type := 9, pos := "law.go:27", after := #[{ on := 0, ground := Go.Ground.data }], guard := none }) (v := ?_) rfl (by kernel_rfl) (by kernel_rfl) (by kernel_rfl) (fun _ _ _ h => h) (Or.inl ⟨by rfl, ?_⟩) (by assumption) ?_
  rotate_left 1
  · intro w' hSw; (go_simp <;> (with_reducible rfl))
  (try simp only [Act.put, List.setIfInBounds_toArray, List.set_cons_zero, List.set_cons_succ])
  refine wpAnyH_take (i := 2) (oi := { dst := some 55, op := Go.Op.move (Go.Operand.tmp 12), type := 23, pos := "law.go:27", after := #[], guard := none }) (v := ?_) rfl (by kernel_rfl) (by kernel_rfl) (by kernel_rfl) (fun _ _ _ h => h) (Or.inl ⟨by rfl, ?_⟩) (by assumption) ?_
  rotate_left 1
  · intro w' hSw; (go_simp <;> (with_reducible rfl))
  (try simp only [Act.put, List.setIfInBounds_toArray, List.set_cons_zero, List.set_cons_succ])
  refine wpAnyH_take (i := 3) (oi := { dst := some 56, op := Go.Op.convert 23 9 (Go.Operand.tmp 55), type := 9, pos := "law.go:27", after := #[{ on := 2, ground := Go.Ground.data }], guard := none }) (v := ?_) rfl (by kernel_rfl) (by kernel_rfl) (by kernel_rfl) (fun _ _ _ h => h) (Or.inl ⟨by rfl, ?_⟩) (by assumption) ?_
  rotate_left 1
  · intro w' hSw; (go_simp <;> (with_reducible rfl))
  (try simp only [Act.put, List.setIfInBounds_toArray, List.set_cons_zero, List.set_cons_succ])
  refine wpAnyH_take (i := 4) (oi := { dst := some 57, op := Go.Op.binOp Go.BinOp.neq 9 (Go.Operand.tmp 54) (Go.Operand.tmp 56) 9, type := 4, pos := "law.go:27", after := #[{ on := 1, ground := Go.Ground.data }, { on := 3, ground := Go.Ground.data }], guard := none }) (v := ?_) rfl (by kernel_rfl) (by kernel_rfl) (by kernel_rfl) (fun _ _ _ h => h) (Or.inl ⟨by rfl, ?_⟩) (by assumption) ?_
  rotate_left 1
  · intro w' hSw; (go_simp <;> (with_reducible rfl))
  (try simp only [Act.put, List.setIfInBounds_toArray, List.set_cons_zero, List.set_cons_succ])
  refine wpAnyH_take (i := 5) (oi := { dst := some 58, op := Go.Op.move (Go.Operand.tmp 57), type := 4, pos := "law.go:27", after := #[{ on := 4, ground := Go.Ground.data }], guard := none }) (v := ?_) rfl (by kernel_rfl) (by kernel_rfl) (by kernel_rfl) (fun _ _ _ h => h) (Or.inl ⟨by rfl, ?_⟩) (by assumption) ?_
  rotate_left 1
  · intro w' hSw; (go_simp <;> (with_reducible rfl))
  (try simp only [Act.put, List.setIfInBounds_toArray, List.set_cons_zero, List.set_cons_succ])
  refine wpAnyH_take (i := 6) (oi := { dst := some 59, op := Go.Op.move (Go.Operand.tmp 11), type := 27, pos := "law.go:27", after := #[{ on := 5, ground := Go.Ground.guard }], guard := some (5, false) }) (v := ?_) rfl (by kernel_rfl) (by kernel_rfl) (by kernel_rfl) (fun _ _ _ h => h) (Or.inl ⟨by rfl, ?_⟩) (by assumption) ?_
  rotate_left 1
  · intro w' hSw; (go_simp <;> (with_reducible rfl))
  (try simp only [Act.put, List.setIfInBounds_toArray, List.set_cons_zero, List.set_cons_succ])
  refine wpAnyH_take (i := 7) (oi := { dst := some 60, op := Go.Op.move (Go.Operand.tmp 13), type := 3, pos := "law.go:27", after := #[{ on := 5, ground := Go.Ground.guard }], guard := some (5, false) }) (v := ?_) rfl (by kernel_rfl) (by kernel_rfl) (by kernel_rfl) (fun _ _ _ h => h) (Or.inl ⟨by rfl, ?_⟩) (by assumption) ?_
  rotate_left 1
  · intro w' hSw; (go_simp <;> (with_reducible rfl))
  (try simp only [Act.put, List.setIfInBounds_toArray, List.set_cons_zero, List.set_cons_succ])
  refine wpAnyH_take (i := 8) (oi := { dst := some 61, op := Go.Op.binOp Go.BinOp.neq 3 (Go.Operand.tmp 59) (Go.Operand.tmp 60) 3, type := 4, pos := "law.go:27", after := #[{ on := 6, ground := Go.Ground.data }, { on := 7, ground := Go.Ground.data }, { on := 5, ground := Go.Ground.guard }], guard := some (5, false) }) (v := ?_) rfl (by kernel_rfl) (by kernel_rfl) (by kernel_rfl) (fun _ _ _ h => h) (Or.inl ⟨by rfl, ?_⟩) (by assumption) ?_
  rotate_left 1
  · intro w' hSw; (go_simp <;> (with_reducible rfl))
  (try simp only [Act.put, List.setIfInBounds_toArray, List.set_cons_zero, List.set_cons_succ])
  refine wpAnyH_take (i := 9) (oi := { dst := some 62, op := Go.Op.pick (Go.Operand.tmp 58) (Go.Operand.const (Go.Value.bool true)) (Go.Operand.tmp 61), type := 4, pos := "law.go:27", after := #[{ on := 5, ground := Go.Ground.data }, { on := 8, ground := Go.Ground.data }], guard := none }) (v := ?_) rfl (by kernel_rfl) (by kernel_rfl) (by kernel_rfl) (fun _ _ _ h => h) (Or.inl ⟨by rfl, ?_⟩) (by assumption) ?_
  rotate_left 1
  · intro w' hSw; (go_simp <;> (with_reducible rfl))
  (try simp only [Act.put, List.setIfInBounds_toArray, List.set_cons_zero, List.set_cons_succ])
  refine wpAnyH_take (i := 10) (oi := { dst := some 63, op := Go.Op.move (Go.Operand.tmp 62), type := 4, pos := "law.go:27", after := #[{ on := 9, ground := Go.Ground.data }, { on := 5, ground := Go.Ground.chain }], guard := none }) (v := ?_) rfl (by kernel_rfl) (by kernel_rfl) (by kernel_rfl) (fun _ _ _ h => h) (Or.inl ⟨by rfl, ?_⟩) (by assumption) ?_
  rotate_left 1
  · intro w' hSw; (go_simp <;> (with_reducible rfl))
  (try simp only [Act.put, List.setIfInBounds_toArray, List.set_cons_zero, List.set_cons_succ])
  refine wpAnyH_take (i := 11) (oi := { dst := some 64, op := Go.Op.load 25 (Go.Operand.tmp 14), type := 25, pos := "law.go:27", after := #[{ on := 10, ground := Go.Ground.guard }], guard := some (10, false) }) (v := ?_) rfl (by kernel_rfl) (by kernel_rfl) (by kernel_rfl) (fun _ _ _ h => h) (Or.inl ⟨by rfl, ?_⟩) (by assumption) ?_
  rotate_left 1
  · intro w' hSw; (go_simp <;> (with_reducible rfl))
  (try simp only [Act.put, List.setIfInBounds_toArray, List.set_cons_zero, List.set_cons_succ])
  refine wpAnyH_take (i := 12) (oi := { dst := some 65, op := Go.Op.load 25 (Go.Operand.tmp 16), type := 25, pos := "law.go:27", after := #[{ on := 10, ground := Go.Ground.guard }], guard := some (10, false) }) (v := ?_) rfl (by kernel_rfl) (by kernel_rfl) (by kernel_rfl) (fun _ _ _ h => h) (Or.inl ⟨by rfl, ?_⟩) (by assumption) ?_
  rotate_left 1
  · intro w' hSw; (go_simp <;> (with_reducible rfl))
  (try simp only [Act.put, List.setIfInBounds_toArray, List.set_cons_zero, List.set_cons_succ])
  refine wpAnyH_ready (rs := [13]) (by kernel_rfl) (by simp) ?_
  refine AllReadyH.cons (o := { dst := some 66, op := Go.Op.call { callee := Go.Callee.value (Go.Operand.func 11), args := #[Go.Operand.tmp 64, Go.Operand.tmp 65], argTypes := #[25, 25] }, type := 4, pos := "law.go:27", after := #[{ on := 11, ground := Go.Ground.data }, { on := 12, ground := Go.Ground.data }, { on := 10, ground := Go.Ground.chain }, { on := 10, ground := Go.Ground.guard }], guard := some (10, false) }) rfl (fun K hK => ?_) AllReadyH.nil
  go_simp
  (refine (rsame8_any ⟨uty, ucd, urs, ud⟩ ⟨uty, ucd, urs, ud⟩ AU um cU AV um cV _ true HU.out HV.out (msgSame_self _)).mono ?_; rintro e w13 ⟨rfl, hb13⟩; have H13 := Lib.hid hb13; clear hb13)
  refine hK.out _ _ ?_ (fun hHeld => ?_)
  · exact HS6.out _ H13.out
  clear hK K
  (try simp only [Act.put, List.setIfInBounds_toArray, List.set_cons_zero, List.set_cons_succ])
  refine wpAnyH_take (i := 14) (oi := { dst := some 67, op := Go.Op.unOp Go.UnOp.not 4 (Go.Operand.tmp 66), type := 4, pos := "law.go:27", after := #[{ on := 13, ground := Go.Ground.data }, { on := 10, ground := Go.Ground.guard }], guard := some (10, false) }) (v := ?_) rfl (by kernel_rfl) (by kernel_rfl) (by kernel_rfl) (fun _ _ _ h => h) (Or.inl ⟨by rfl, ?_⟩) (by assumption) ?_
  rotate_left 1
  · intro w' hSw; (go_simp <;> (with_reducible rfl))
  (try simp only [Act.put, List.setIfInBounds_toArray, List.set_cons_zero, List.set_cons_succ])
  refine wpAnyH_take (i := 15) (oi := { dst := some 68, op := Go.Op.pick (Go.Operand.tmp 63) (Go.Operand.const (Go.Value.bool true)) (Go.Operand.tmp 67), type := 4, pos := "law.go:27", after := #[{ on := 10, ground := Go.Ground.data }, { on := 14, ground := Go.Ground.data }], guard := none }) (v := ?_) rfl (by kernel_rfl) (by kernel_rfl) (by kernel_rfl) (fun _ _ _ h => h) (Or.inl ⟨by rfl, ?_⟩) (by assumption) ?_
  rotate_left 1
  · intro w' hSw; (go_simp <;> (with_reducible rfl))
  (try simp only [Act.put, List.setIfInBounds_toArray, List.set_cons_zero, List.set_cons_succ])
  refine wpAnyH_take (i := 16) (oi := { dst := some 69, op := Go.Op.move (Go.Operand.tmp 68), type := 4, pos := "law.go:27", after := #[{ on := 15, ground := Go.Ground.data }, { on := 13, ground := Go.Ground.chain }], guard := none }) (v := ?_) rfl (by kernel_rfl) (by kernel_rfl) (by kernel_rfl) (fun _ _ _ h => h) (Or.inl ⟨by rfl, ?_⟩) (by assumption) ?_
  rotate_left 1
  · intro w' hSw; (go_simp <;> (with_reducible rfl))
  (try simp only [Act.put, List.setIfInBounds_toArray, List.set_cons_zero, List.set_cons_succ])
  refine wpAnyH_take (i := 17) (oi := { dst := some 70, op := Go.Op.move (Go.Operand.tmp 15), type := 27, pos := "law.go:27", after := #[{ on := 16, ground := Go.Ground.guard }], guard := some (16, false) }) (v := ?_) rfl (by kernel_rfl) (by kernel_rfl) (by kernel_rfl) (fun _ _ _ h => h) (Or.inl ⟨by rfl, ?_⟩) (by assumption) ?_
  rotate_left 1
  · intro w' hSw; (go_simp <;> (with_reducible rfl))
  (try simp only [Act.put, List.setIfInBounds_toArray, List.set_cons_zero, List.set_cons_succ])
  refine wpAnyH_take (i := 18) (oi := { dst := some 71, op := Go.Op.move (Go.Operand.tmp 17), type := 3, pos := "law.go:27", after := #[{ on := 16, ground := Go.Ground.guard }], guard := some (16, false) }) (v := ?_) rfl (by kernel_rfl) (by kernel_rfl) (by kernel_rfl) (fun _ _ _ h => h) (Or.inl ⟨by rfl, ?_⟩) (by assumption) ?_
  rotate_left 1
  · intro w' hSw; (go_simp <;> (with_reducible rfl))
  (try simp only [Act.put, List.setIfInBounds_toArray, List.set_cons_zero, List.set_cons_succ])
  refine wpAnyH_take (i := 19) (oi := { dst := some 72, op := Go.Op.binOp Go.BinOp.neq 3 (Go.Operand.tmp 70) (Go.Operand.tmp 71) 3, type := 4, pos := "law.go:27", after := #[{ on := 17, ground := Go.Ground.data }, { on := 18, ground := Go.Ground.data }, { on := 16, ground := Go.Ground.guard }], guard := some (16, false) }) (v := ?_) rfl (by kernel_rfl) (by kernel_rfl) (by kernel_rfl) (fun _ _ _ h => h) (Or.inl ⟨by rfl, ?_⟩) (by assumption) ?_
  rotate_left 1
  · intro w' hSw; (go_simp <;> (with_reducible rfl))
  (try simp only [Act.put, List.setIfInBounds_toArray, List.set_cons_zero, List.set_cons_succ])
  refine wpAnyH_take (i := 20) (oi := { dst := some 73, op := Go.Op.pick (Go.Operand.tmp 69) (Go.Operand.const (Go.Value.bool true)) (Go.Operand.tmp 72), type := 4, pos := "law.go:27", after := #[{ on := 16, ground := Go.Ground.data }, { on := 19, ground := Go.Ground.data }], guard := none }) (v := ?_) rfl (by kernel_rfl) (by kernel_rfl) (by kernel_rfl) (fun _ _ _ h => h) (Or.inl ⟨by rfl, ?_⟩) (by assumption) ?_
  rotate_left 1
  · intro w' hSw; (go_simp <;> (with_reducible rfl))
  (try simp only [Act.put, List.setIfInBounds_toArray, List.set_cons_zero, List.set_cons_succ])
  refine wpAnyH_take (i := 21) (oi := { dst := some 74, op := Go.Op.move (Go.Operand.tmp 73), type := 4, pos := "law.go:27", after := #[{ on := 20, ground := Go.Ground.data }, { on := 16, ground := Go.Ground.chain }], guard := none }) (v := ?_) rfl (by kernel_rfl) (by kernel_rfl) (by kernel_rfl) (fun _ _ _ h => h) (Or.inl ⟨by rfl, ?_⟩) (by assumption) ?_
  rotate_left 1
  · intro w' hSw; (go_simp <;> (with_reducible rfl))
  (try simp only [Act.put, List.setIfInBounds_toArray, List.set_cons_zero, List.set_cons_succ])
  refine wpAnyH_take (i := 22) (oi := { dst := some 75, op := Go.Op.load 25 (Go.Operand.tmp 4), type := 25, pos := "law.go:27", after := #[{ on := 21, ground := Go.Ground.guard }], guard := some (21, false) }) (v := ?_) rfl (by kernel_rfl) (by kernel_rfl) (by kernel_rfl) (fun _ _ _ h => h) (Or.inl ⟨by rfl, ?_⟩) (by assumption) ?_
  rotate_left 1
  · intro w' hSw; (go_simp <;> (with_reducible rfl))
  (try simp only [Act.put, List.setIfInBounds_toArray, List.set_cons_zero, List.set_cons_succ])
  refine wpAnyH_take (i := 23) (oi := { dst := some 76, op := Go.Op.load 25 (Go.Operand.tmp 5), type := 25, pos := "law.go:27", after := #[{ on := 21, ground := Go.Ground.guard }], guard := some (21, false) }) (v := ?_) rfl (by kernel_rfl) (by kernel_rfl) (by kernel_rfl) (fun _ _ _ h => h) (Or.inl ⟨by rfl, ?_⟩) (by assumption) ?_
  rotate_left 1
  · intro w' hSw; (go_simp <;> (with_reducible rfl))
  (try simp only [Act.put, List.setIfInBounds_toArray, List.set_cons_zero, List.set_cons_succ])
  refine wpAnyH_take (i := 25) (oi := { dst := some 78, op := Go.Op.load 25 (Go.Operand.tmp 4), type := 25, pos := "law.go:27", after := #[{ on := 21, ground := Go.Ground.guard }], guard := some (21, false) }) (v := ?_) rfl (by kernel_rfl) (by kernel_rfl) (by kernel_rfl) (fun _ _ _ h => h) (Or.inl ⟨by rfl, ?_⟩) (by assumption) ?_
  rotate_left 1
  · intro w' hSw; (go_simp <;> (with_reducible rfl))
  (try simp only [Act.put, List.setIfInBounds_toArray, List.set_cons_zero, List.set_cons_succ])
  refine wpAnyH_take (i := 26) (oi := { dst := some 79, op := Go.Op.load 25 (Go.Operand.tmp 5), type := 25, pos := "law.go:27", after := #[{ on := 21, ground := Go.Ground.guard }], guard := some (21, false) }) (v := ?_) rfl (by kernel_rfl) (by kernel_rfl) (by kernel_rfl) (fun _ _ _ h => h) (Or.inl ⟨by rfl, ?_⟩) (by assumption) ?_
  rotate_left 1
  · intro w' hSw; (go_simp <;> (with_reducible rfl))
  (try simp only [Act.put, List.setIfInBounds_toArray, List.set_cons_zero, List.set_cons_succ])
  refine wpAnyH_ready (rs := [24]) (by kernel_rfl) (by simp) ?_
  refine AllReadyH.cons (o := { dst := some 77, op := Go.Op.call { callee := Go.Callee.value (Go.Operand.func 12), args := #[Go.Operand.tmp 75, Go.Operand.tmp 76], argTypes := #[25, 25] }, type := 4, pos := "law.go:27", after := #[{ on := 22, ground := Go.Ground.data }, { on := 23, ground := Go.Ground.data }, { on := 21, ground := Go.Ground.chain }, { on := 21, ground := Go.Ground.guard }], guard := some (21, false) }) rfl (fun K hK => ?_) AllReadyH.nil
  go_simp
  (refine (same8_any ⟨ty, cd, rs, d⟩ ⟨ty', cd', rs', d'⟩ A n c A' n' c' _ sm (HK.out _ (below_trans Hb.out H13.out)).2.1 (HK.out _ (below_trans Hb.out H13.out)).2.2.1 Esm.out).mono ?_; rintro e w24 ⟨rfl, hb24⟩; have H24 := Lib.hid (below_trans H13.out hb24); clear hb24)
  refine hK.out _ _ ?_ (fun hHeld => ?_)
  · exact HS6.out _ H24.out
  clear hK K
  (try simp only [Act.put, List.setIfInBounds_toArray, List.set_cons_zero, List.set_cons_succ])
  refine wpAnyH_ready (rs := [27]) (by kernel_rfl) (by simp) ?_
  refine AllReadyH.cons (o := { dst := some 80, op := Go.Op.call { callee := Go.Callee.value (Go.Operand.func 11), args := #[Go.Operand.tmp 78, Go.Operand.tmp 79], argTypes := #[25, 25] }, type := 4, pos := "law.go:27", after := #[{ on := 25, ground := Go.Ground.data }, { on := 26, ground := Go.Ground.data }, { on := 24, ground := Go.Ground.chain }, { on := 21, ground := Go.Ground.guard }], guard := some (21, false) }) rfl (fun K hK => ?_) AllReadyH.nil
  go_simp
  (refine (rsame8_any ⟨ty, cd, rs, d⟩ ⟨ty', cd', rs', d'⟩ A n c A' n' c' _ sm (HK.out _ (below_trans Hb.out H24.out)).2.1 (HK.out _ (below_trans Hb.out H24.out)).2.2.1 Esm.out).mono ?_; rintro e w27 ⟨rfl, hb27⟩; have H27 := Lib.hid (below_trans H24.out hb27); clear hb27)
  refine hK.out _ _ ?_ (fun hHeld => ?_)
  · exact HS6.out _ H27.out
  clear hK K
  (try simp only [Act.put, List.setIfInBounds_toArray, List.set_cons_zero, List.set_cons_succ])
  refine wpAnyH_take (i := 28) (oi := { dst := some 81, op := Go.Op.binOp Go.BinOp.neq 4 (Go.Operand.tmp 77) (Go.Operand.tmp 80) 4, type := 4, pos := "law.go:27", after := #[{ on := 24, ground := Go.Ground.data }, { on := 27, ground := Go.Ground.data }, { on := 21, ground := Go.Ground.guard }], guard := some (21, false) }) (v := ?_) rfl (by kernel_rfl) (by kernel_rfl) (by kernel_rfl) (fun _ _ _ h => h) (Or.inl ⟨by rfl, ?_⟩) (by assumption) ?_
  rotate_left 1
  · intro w' hSw; (go_simp <;> (with_reducible rfl))
  (try simp only [Act.put, List.setIfInBounds_toArray, List.set_cons_zero, List.set_cons_succ])
  refine wpAnyH_take (i := 29) (oi := { dst := some 82, op := Go.Op.pick (Go.Operand.tmp 74) (Go.Operand.const (Go.Value.bool true)) (Go.Operand.tmp 81), type := 4, pos := "law.go:27", after := #[{ on := 21, ground := Go.Ground.data }, { on := 28, ground := Go.Ground.data }], guard := none }) (v := ?_) rfl (by kernel_rfl) (by kernel_rfl) (by kernel_rfl) (fun _ _ _ h => h) (Or.inl ⟨by rfl, ?_⟩) (by assumption) ?_
  rotate_left 1
  · intro w' hSw; (go_simp <;> (with_reducible rfl))
  (try simp only [Act.put, List.setIfInBounds_toArray, List.set_cons_zero, List.set_cons_succ])
  refine wpAnyH_take (i := 30) (oi := { dst := some 83, op := Go.Op.move (Go.Operand.tmp 82), type := 4, pos := "law.go:27", after := #[{ on := 29, ground := Go.Ground.data }, { on := 27, ground := Go.Ground.chain }], guard := none }) (v := ?_) rfl (by kernel_rfl) (by kernel_rfl) (by kernel_rfl) (fun _ _ _ h => h) (Or.inl ⟨by rfl, ?_⟩) (by assumption) ?_
  rotate_left 1
  · intro w' hSw; (go_simp <;> (with_reducible rfl))
  (try simp only [Act.put, List.setIfInBounds_toArray, List.set_cons_zero, List.set_cons_succ])
  refine wpAnyH_take (i := 31) (oi := { dst := some 84, op := Go.Op.load 25 (Go.Operand.tmp 4), type := 25, pos := "law.go:27", after := #[{ on := 30, ground := Go.Ground.guard }], guard := some (30, false) }) (v := ?_) rfl (by kernel_rfl) (by kernel_rfl) (by kernel_rfl) (fun _ _ _ h => h) (Or.inl ⟨by rfl, ?_⟩) (by assumption) ?_
  rotate_left 1
  · intro w' hSw; (go_simp <;> (with_reducible rfl))
  (try simp only [Act.put, List.setIfInBounds_toArray, List.set_cons_zero, List.set_cons_succ])
  refine wpAnyH_take (i := 33) (oi := { dst := some 86, op := Go.Op.load 25 (Go.Operand.tmp 4), type := 25, pos := "law.go:27", after := #[{ on := 30, ground := Go.Ground.guard }], guard := some (30, false) }) (v := ?_) rfl (by kernel_rfl) (by kernel_rfl) (by kernel_rfl) (fun _ _ _ h => h) (Or.inl ⟨by rfl, ?_⟩) (by assumption) ?_
  rotate_left 1
  · intro w' hSw; (go_simp <;> (with_reducible rfl))
  (try simp only [Act.put, List.setIfInBounds_toArray, List.set_cons_zero, List.set_cons_succ])
  refine wpAnyH_ready (rs := [32]) (by kernel_rfl) (by simp) ?_
  refine AllReadyH.cons (o := { dst := some 85, op := Go.Op.call { callee := Go.Callee.value (Go.Operand.func 13), args := #[Go.Operand.tmp 84], argTypes := #[25] }, type := 3, pos := "law.go:27", after := #[{ on := 31, ground := Go.Ground.data }, { on := 30, ground := Go.Ground.chain }, { on := 30, ground := Go.Ground.guard }], guard := some (30, false) }) rfl (fun K hK => ?_) AllReadyH.nil
  go_simp
  (refine (sort8_any ty cd rs A n c x _ Ex.out).mono ?_; rintro e w32 ⟨rfl, hb32⟩; have H32 := Lib.hid (below_trans H27.out hb32); clear hb32)
  refine hK.out _ _ ?_ (fun hHeld => ?_)
  · exact HS6.out _ H32.out
  clear hK K
  (try simp only [Act.put, List.setIfInBounds_toArray, List.set_cons_zero, List.set_cons_succ])
  refine wpAnyH_ready (rs := [34]) (by kernel_rfl) (by simp) ?_
  refine AllReadyH.cons (o := { dst := some 87, op := Go.Op.call { callee := Go.Callee.value (Go.Operand.func 14), args := #[Go.Operand.tmp 86], argTypes := #[25] }, type := 3, pos := "law.go:27", after := #[{ on := 33, ground := Go.Ground.data }, { on := 32, ground := Go.Ground.chain }, { on := 30, ground := Go.Ground.guard }], guard := some (30, false) }) rfl (fun K hK => ?_) AllReadyH.nil
  go_simp
  (refine (rsort8_any ty cd rs A n c x _ Ex.out).mono ?_; rintro e w34 ⟨rfl, hb34⟩; have H34 := Lib.hid (below_trans H32.out hb34); clear hb34)
  refine hK.out _ _ ?_ (fun hHeld => ?_)
  · exact HS6.out _ H34.out
  clear hK K
  (try simp only [Act.put, List.setIfInBounds_toArray, List.set_cons_zero, List.set_cons_succ])
  refine wpAnyH_take (i := 35) (oi := { dst := some 88, op := Go.Op.binOp Go.BinOp.neq 3 (Go.Operand.tmp 85) (Go.Operand.tmp 87) 3, type := 4, pos := "law.go:27", after := #[{ on := 32, ground := Go.Ground.data }, { on := 34, ground := Go.Ground.data }, { on := 30, ground := Go.Ground.guard }], guard := some (30, false) }) (v := ?_) rfl (by kernel_rfl) (by kernel_rfl) (by kernel_rfl) (fun _ _ _ h => h) (Or.inl ⟨by rfl, ?_⟩) (by assumption) ?_
  rotate_left 1
  · intro w' hSw; (go_simp <;> (with_reducible rfl))
  (try simp only [Act.put, List.setIfInBounds_toArray, List.set_cons_zero, List.set_cons_succ])
  refine wpAnyH_take (i := 36) (oi := { dst := some 89, op := Go.Op.pick (Go.Operand.tmp 83) (Go.Operand.const (Go.Value.bool true)) (Go.Operand.tmp 88), type := 4, pos := "law.go:27", after := #[{ on := 30, ground := Go.Ground.data }, { on := 35, ground := Go.Ground.data }], guard := none }) (v := ?_) rfl (by kernel_rfl) (by kernel_rfl) (by kernel_rfl) (fun _ _ _ h => h) (Or.inl ⟨by rfl, ?_⟩) (by assumption) ?_
  rotate_left 1
  · intro w' hSw; (go_simp <;> (with_reducible rfl))
  (try simp only [Act.put, List.setIfInBounds_toArray, List.set_cons_zero, List.set_cons_succ])
  refine wpAnyH_done (by kernel_rfl) ?_ _
  have hbb := H34.out
  have HBU := Lib.hid (HBU.out.below hbb)
  have Hlo := Lib.hid (Hlo.out.trans (hbb.mono (by have := Hlo.out.size; have := EB8.out; omega)))
  have HkU := Lib.hid (blk_on HkU.out hbb)
  have Hb := Lib.hid (below_trans Hb.out hbb)
  clear hbb hHeld H13 H24 H27 H32 H34 HkV HV HX HY HU HS6
  obtain ⟨⟨⟨c0, c1, c2, c3⟩, -⟩, -⟩ := HK.out _ Hb.out
  go_wp2_with fail
  obtain ⟨p, q, ke, hEcho⟩ : ∃ (p q : Int) (ke : Bool), ∀ (w : World) (e : Ending) (w' : World), EchoIs ty cd rs w e w' → e = .returned (.tuple #[.int .u16 p, .int .u16 q, .bool ke]) ∧ Below w.heap.size w w' := by
    by_cases he : echoM ty cd = true
    · exact ⟨rs / 65536, rs % 65536, true, fun w e w' h => ⟨by have := h.1; rw [if_pos he] at this; exact this, h.2⟩⟩
    · exact ⟨0, 0, false, fun w e w' h => ⟨by have := h.1; rw [if_neg he] at this; exact this, h.2⟩⟩
  have HEcho := Lib.hid hEcho
  clear hEcho
  refine (echo8_any ty cd rs A n c _ hrs).mono ?_
  intro e w40 h40
  obtain ⟨rfl, hb40⟩ := HEcho.out _ _ _ h40
  have HBU := Lib.hid (HBU.out.below hb40)
  have Hlo := Lib.hid (Hlo.out.trans ((hb40).mono (by have := Hlo.out.size; have := EB8.out; omega)))
  have Hb := Lib.hid (below_trans Hb.out hb40)
  have HkU := Lib.hid (blk_on HkU.out hb40)
  clear c0 c1 c2 c3 hb40 h40
  obtain ⟨⟨⟨c0, c1, c2, c3⟩, -⟩, -⟩ := HK.out _ Hb.out
  go_wp2_with fail
  refine (recho8_any ty cd rs A n c _ hrs).mono ?_
  intro e w41 h41
  obtain ⟨rfl, hb41⟩ := HEcho.out _ _ _ h41
  have HBU := Lib.hid (HBU.out.below hb41)
  have Hlo := Lib.hid (Hlo.out.trans ((hb41).mono (by have := Hlo.out.size; have := EB8.out; omega)))
  have Hb := Lib.hid (below_trans Hb.out hb41)
  have HkU := Lib.hid (blk_on HkU.out hb41)
  clear c0 c1 c2 c3 hb41 h41 HEcho
  obtain ⟨⟨⟨c0, c1, c2, c3⟩, -⟩, -⟩ := HK.out _ Hb.out
  go_wp2_with fail
  obtain ⟨wty, wcd, wrs, ewm⟩ : ∃ wty wcd wrs, withM ⟨ty, cd, rs, d⟩ id = ⟨wty, wcd, wrs, d⟩ := by
    unfold withM
    split
    · exact ⟨_, _, _, rfl⟩
    · exact ⟨_, _, _, rfl⟩
  have Ewm := Lib.hid ewm
  clear ewm
  refine (with8_any ⟨ty, cd, rs, d⟩ id A n c _ hrs HidB.out hnm (HK.out _ Hb.out).2.1).mono ?_
  intro e w42 h42
  unfold WithOwn at h42
  rw [Ewm.out] at h42
  obtain ⟨AW, cW, rfl, hcW1, hcW2, hoW, hb42⟩ := h42
  have HBW := Lib.hid ((ByRow.of hoW).mono (B' := B8) (by have := Hlo.out.size; have := EB8.out; omega))
  have HW := Lib.hid (hoW.rd HdB.out)
  have HBU := Lib.hid (HBU.out.below hb42)
  have Hlo := Lib.hid (Hlo.out.trans ((hb42).mono (by have := Hlo.out.size; have := EB8.out; omega)))
  have Hb := Lib.hid (below_trans Hb.out hb42)
  have HkU := Lib.hid (blk_on HkU.out hb42)
  clear c0 c1 c2 c3 hb42 hcW1 hcW2 hoW
  obtain ⟨⟨⟨c0, c1, c2, c3⟩, -⟩, -⟩ := HK.out _ Hb.out
  go_wp2_with fail
  obtain ⟨k68, ek68⟩ : ∃ k, min nb 68 = k := ⟨_, rfl⟩
  have Ek := Lib.hid ek68
  have hk68 : k68 ≤ 68 := by omega
  have hlo42 := Hlo.out
  rw [← EB8.out] at hlo42
  refine (over8_any A7 nb c7 b k68 _ ((HOP.out.on hlo42).rd HbB.out) Hc7.out ek68).mono ?_
  rintro e w43 ⟨AZ, cZ, rfl, hcZ1, hcZ2, hoZ, hb43⟩
  have htk : ∀ x ∈ b.take k68, 0 ≤ x ∧ x < 256 := fun x hx => HbB.out x (List.mem_of_mem_take hx)
  have HBZ := Lib.hid ((ByRow.of hoZ).mono (B' := B8) (by have := Hlo.out.size; have := EB8.out; omega))
  have HZ := Lib.hid (hoZ.rd htk)
  have HBW := Lib.hid (HBW.out.below hb43)
  have HW := Lib.hid (HW.out.below hb43)
  have HBU := Lib.hid (HBU.out.below hb43)
  have Hlo := Lib.hid (Hlo.out.trans ((hb43).mono (by have := Hlo.out.size; have := EB8.out; omega)))
  have Hb := Lib.hid (below_trans Hb.out hb43)
  have HkU := Lib.hid (blk_on HkU.out hb43)
  clear c0 c1 c2 c3 hb43 hcZ1 hcZ2 hoZ htk hlo42 ek68
  have hba : Below w43.heap.size w43 ((w43.alloc (.cells #[.int .u8 wty, .int .u8 wcd, .int .u32 wrs, .slice AW n cW] 25)).alloc (.cells #[.int .u8 11, .int .u8 0, .int .u32 0, .slice AZ k68 cZ] 25)) := ((Below.refl _ _).alloc (Nat.le_refl _) _).alloc (by simp) _
  obtain ⟨zw, ezw⟩ : ∃ z, w43.heap.size = z := ⟨_, rfl⟩
  have hkW : ((w43.alloc (.cells #[.int .u8 wty, .int .u8 wcd, .int .u32 wrs, .slice AW n cW] 25)).alloc (.cells #[.int .u8 11, .int .u8 0, .int .u32 0, .slice AZ k68 cZ] 25)).heap[zw]? = some (.cells #[.int .u8 wty, .int .u8 wcd, .int .u32 wrs, .slice AW n cW] 25 (0, 0)) := by
    rw [Below.heap_alloc _ _ _ (by simp [ezw]), ← ezw]; exact heap_alloc_new w43 _
  have hkZ : ((w43.alloc (.cells #[.int .u8 wty, .int .u8 wcd, .int .u32 wrs, .slice AW n cW] 25)).alloc (.cells #[.int .u8 11, .int .u8 0, .int .u32 0, .slice AZ k68 cZ] 25)).heap[zw + 1]? = some (.cells #[.int .u8 11, .int .u8 0, .int .u32 0, .slice AZ k68 cZ] 25 (0, 0)) := by
    rw [← ezw]; simpa using heap_alloc_new (w43.alloc (.cells #[.int .u8 wty, .int .u8 wcd, .int .u32 wrs, .slice AW n cW] 25)) (.cells #[.int .u8 11, .int .u8 0, .int .u32 0, .slice AZ k68 cZ] 25)
  have HBW := Lib.hid (HBW.out.below hba)
  have HW := Lib.hid (HW.out.below hba)
  have HBZ := Lib.hid (HBZ.out.below hba)
  have HZ := Lib.hid (HZ.out.below hba)
  have HBU := Lib.hid (HBU.out.below hba)
  have Hlo := Lib.hid (Hlo.out.trans ((hba).mono (by have := Hlo.out.size; have := EB8.out; omega)))
  have Hb := Lib.hid (below_trans Hb.out hba)
  have HkU := Lib.hid (blk_on HkU.out hba)
  go_upto_region 11 with (fail)
  obtain ⟨v43, ev43⟩ : ∃ v, ((w43.alloc (.cells #[.int .u8 wty, .int .u8 wcd, .int .u32 wrs, .slice AW n cW] 25)).alloc (.cells #[.int .u8 11, .int .u8 0, .int .u32 0, .slice AZ k68 cZ] 25)) = v := ⟨_, rfl⟩
  try rw [ev43]
  try simp only [ezw]
  rw [ev43] at HBU Hlo Hb HkU HBW HW HBZ HZ hkW hkZ
  have HkW := Lib.hid hkW
  have HkZ := Lib.hid hkZ
  clear ev43 ezw hba hkW hkZ
  have hdr := Below.drew (Below.refl v43.heap.size v43)
  have HBW := Lib.hid (HBW.out.below hdr)
  have HW := Lib.hid (HW.out.below hdr)
  have HBZ := Lib.hid (HBZ.out.below hdr)
  have HZ := Lib.hid (HZ.out.below hdr)
  have HkW := Lib.hid (blk_on HkW.out hdr)
  have HkZ := Lib.hid (blk_on HkZ.out hdr)
  have HBU := Lib.hid (HBU.out.below hdr)
  have Hlo := Lib.hid (Hlo.out.trans ((hdr).mono (by have := Hlo.out.size; have := EB8.out; omega)))
  have Hb := Lib.hid (below_trans Hb.out hdr)
  have HkU := Lib.hid (blk_on HkU.out hdr)
  obtain ⟨ve, eve⟩ : ∃ ve, v43.drew = ve := ⟨_, rfl⟩
  have HS11 := Lib.hid (show ∀ w', Below v43.drew.heap.size v43.drew w' → ((w'.cell? ⟨z, 0, none⟩ = some (.int .u8 ty) ∧ w'.cell? ⟨z, 1, none⟩ = some (.int .u8 cd) ∧ w'.cell? ⟨z, 2, none⟩ = some (.int .u32 rs) ∧ w'.cell? ⟨z, 3, none⟩ = some (.slice A n c)) ∧ (w'.cell? ⟨z + 1, 0, none⟩ = some (.int .u8 ty') ∧ w'.cell? ⟨z + 1, 1, none⟩ = some (.int .u8 cd') ∧ w'.cell? ⟨z + 1, 2, none⟩ = some (.int .u32 rs') ∧ w'.cell? ⟨z + 1, 3, none⟩ = some (.slice A' n' c'))) ∧ (w'.cell? ⟨zw, 0, none⟩ = some (.int .u8 wty) ∧ w'.cell? ⟨zw, 1, none⟩ = some (.int .u8 wcd) ∧ w'.cell? ⟨zw, 2, none⟩ = some (.int .u32 wrs) ∧ w'.cell? ⟨zw, 3, none⟩ = some (.slice AW n cW)) ∧ (w'.cell? ⟨zw + 1, 0, none⟩ = some (.int .u8 11) ∧ w'.cell? ⟨zw + 1, 1, none⟩ = some (.int .u8 0) ∧ w'.cell? ⟨zw + 1, 2, none⟩ = some (.int .u32 0) ∧ w'.cell? ⟨zw + 1, 3, none⟩ = some (.slice AZ k68 cZ)) from
    fun w' hb => ⟨(HK.out _ (below_trans Hb.out hb)).1, cells4 (blk_on HkW.out hb), cells4 (blk_on HkZ.out hb)⟩)
  refine wp_region_held_drew (S := fun w' => ((w'.cell? ⟨z, 0, none⟩ = some (.int .u8 ty) ∧ w'.cell? ⟨z, 1, none⟩ = some (.int .u8 cd) ∧ w'.cell? ⟨z, 2, none⟩ = some (.int .u32 rs) ∧ w'.cell? ⟨z, 3, none⟩ = some (.slice A n c)) ∧ (w'.cell? ⟨z + 1, 0, none⟩ = some (.int .u8 ty') ∧ w'.cell? ⟨z + 1, 1, none⟩ = some (.int .u8 cd') ∧ w'.cell? ⟨z + 1, 2, none⟩ = some (.int .u32 rs') ∧ w'.cell? ⟨z + 1, 3, none⟩ = some (.slice A' n' c'))) ∧ (w'.cell? ⟨zw, 0, none⟩ = some (.int .u8 wty) ∧ w'.cell? ⟨zw, 1, none⟩ = some (.int .u8 wcd) ∧ w'.cell? ⟨zw, 2, none⟩ = some (.int .u32 wrs) ∧ w'.cell? ⟨zw, 3, none⟩ = some (.slice AW n cW)) ∧ (w'.cell? ⟨zw + 1, 0, none⟩ = some (.int .u8 11) ∧ w'.cell? ⟨zw + 1, 1, none⟩ = some (.int .u8 0) ∧ w'.cell? ⟨zw + 1, 2, none⟩ = some (.int .u32 0) ∧ w'.cell? ⟨zw + 1, 3, none⟩ = some (.slice AZ k68 cZ))) (by kernel_rfl) (HS11.out _ (Below.refl _ _)) (fun hHeld => ?_)
  rw [eve] at HBU Hlo Hb HkU HBW HW HBZ HZ HkW HkZ HS11 hHeld ⊢
  clear eve hdr
  refine wpAnyH_take (i := 0) (oi := { dst := some 107, op := Go.Op.move (Go.Operand.tmp 18), type := 26, pos := "law.go:33", after := #[], guard := none }) (v := ?_) rfl (by kernel_rfl) (by kernel_rfl) (by kernel_rfl) (fun _ _ _ h => h) (Or.inl ⟨by rfl, ?_⟩) (by assumption) ?_
  rotate_left 1
  · intro w' hSw; (go_simp <;> (with_reducible rfl))
  (try simp only [Act.put, List.setIfInBounds_toArray, List.set_cons_zero, List.set_cons_succ])
  refine wpAnyH_take (i := 1) (oi := { dst := some 108, op := Go.Op.move (Go.Operand.tmp 21), type := 26, pos := "law.go:33", after := #[], guard := none }) (v := ?_) rfl (by kernel_rfl) (by kernel_rfl) (by kernel_rfl) (fun _ _ _ h => h) (Or.inl ⟨by rfl, ?_⟩) (by assumption) ?_
  rotate_left 1
  · intro w' hSw; (go_simp <;> (with_reducible rfl))
  (try simp only [Act.put, List.setIfInBounds_toArray, List.set_cons_zero, List.set_cons_succ])
  refine wpAnyH_take (i := 2) (oi := { dst := some 109, op := Go.Op.binOp Go.BinOp.eql 26 (Go.Operand.tmp 107) (Go.Operand.tmp 108) 26, type := 4, pos := "law.go:33", after := #[{ on := 0, ground := Go.Ground.data }, { on := 1, ground := Go.Ground.data }], guard := none }) (v := ?_) rfl (by kernel_rfl) (by kernel_rfl) (by kernel_rfl) (fun _ _ _ h => h) (Or.inl ⟨by rfl, ?_⟩) (by assumption) ?_
  rotate_left 1
  · intro w' hSw; (go_simp <;> (with_reducible rfl))
  (try simp only [Act.put, List.setIfInBounds_toArray, List.set_cons_zero, List.set_cons_succ])
  refine wpAnyH_take (i := 3) (oi := { dst := some 110, op := Go.Op.move (Go.Operand.tmp 109), type := 4, pos := "law.go:33", after := #[{ on := 2, ground := Go.Ground.data }], guard := none }) (v := ?_) rfl (by kernel_rfl) (by kernel_rfl) (by kernel_rfl) (fun _ _ _ h => h) (Or.inl ⟨by rfl, ?_⟩) (by assumption) ?_
  rotate_left 1
  · intro w' hSw; (go_simp <;> (with_reducible rfl))
  (try simp only [Act.put, List.setIfInBounds_toArray, List.set_cons_zero, List.set_cons_succ])
  refine wpAnyH_take (i := 4) (oi := { dst := some 111, op := Go.Op.move (Go.Operand.tmp 19), type := 26, pos := "law.go:33", after := #[{ on := 3, ground := Go.Ground.guard }], guard := some (3, true) }) (v := ?_) rfl (by kernel_rfl) (by kernel_rfl) (by kernel_rfl) (fun _ _ _ h => h) (Or.inl ⟨by rfl, ?_⟩) (by assumption) ?_
  rotate_left 1
  · intro w' hSw; (go_simp <;> (with_reducible rfl))
  (try simp only [Act.put, List.setIfInBounds_toArray, List.set_cons_zero, List.set_cons_succ])
  refine wpAnyH_take (i := 5) (oi := { dst := some 112, op := Go.Op.move (Go.Operand.tmp 22), type := 26, pos := "law.go:33", after := #[{ on := 3, ground := Go.Ground.guard }], guard := some (3, true) }) (v := ?_) rfl (by kernel_rfl) (by kernel_rfl) (by kernel_rfl) (fun _ _ _ h => h) (Or.inl ⟨by rfl, ?_⟩) (by assumption) ?_
  rotate_left 1
  · intro w' hSw; (go_simp <;> (with_reducible rfl))
  (try simp only [Act.put, List.setIfInBounds_toArray, List.set_cons_zero, List.set_cons_succ])
  refine wpAnyH_take (i := 6) (oi := { dst := some 113, op := Go.Op.binOp Go.BinOp.eql 26 (Go.Operand.tmp 111) (Go.Operand.tmp 112) 26, type := 4, pos := "law.go:33", after := #[{ on := 4, ground := Go.Ground.data }, { on := 5, ground := Go.Ground.data }, { on := 3, ground := Go.Ground.guard }], guard := some (3, true) }) (v := ?_) rfl (by kernel_rfl) (by kernel_rfl) (by kernel_rfl) (fun _ _ _ h => h) (Or.inl ⟨by rfl, ?_⟩) (by assumption) ?_
  rotate_left 1
  · intro w' hSw; (go_simp <;> (with_reducible rfl))
  (try simp only [Act.put, List.setIfInBounds_toArray, List.set_cons_zero, List.set_cons_succ])
  refine wpAnyH_take (i := 7) (oi := { dst := some 114, op := Go.Op.pick (Go.Operand.tmp 110) (Go.Operand.tmp 113) (Go.Operand.const (Go.Value.bool false)), type := 4, pos := "law.go:33", after := #[{ on := 3, ground := Go.Ground.data }, { on := 6, ground := Go.Ground.data }], guard := none }) (v := ?_) rfl (by kernel_rfl) (by kernel_rfl) (by kernel_rfl) (fun _ _ _ h => h) (Or.inl ⟨by rfl, ?_⟩) (by assumption) ?_
  rotate_left 1
  · intro w' hSw; (go_simp <;> (with_reducible rfl))
  (try simp only [Act.put, List.setIfInBounds_toArray, List.set_cons_zero, List.set_cons_succ])
  refine wpAnyH_take (i := 8) (oi := { dst := some 115, op := Go.Op.move (Go.Operand.tmp 114), type := 4, pos := "law.go:33", after := #[{ on := 7, ground := Go.Ground.data }, { on := 3, ground := Go.Ground.chain }], guard := none }) (v := ?_) rfl (by kernel_rfl) (by kernel_rfl) (by kernel_rfl) (fun _ _ _ h => h) (Or.inl ⟨by rfl, ?_⟩) (by assumption) ?_
  rotate_left 1
  · intro w' hSw; (go_simp <;> (with_reducible rfl))
  (try simp only [Act.put, List.setIfInBounds_toArray, List.set_cons_zero, List.set_cons_succ])
  refine wpAnyH_take (i := 9) (oi := { dst := some 116, op := Go.Op.move (Go.Operand.tmp 20), type := 4, pos := "law.go:33", after := #[{ on := 8, ground := Go.Ground.guard }], guard := some (8, true) }) (v := ?_) rfl (by kernel_rfl) (by kernel_rfl) (by kernel_rfl) (fun _ _ _ h => h) (Or.inl ⟨by rfl, ?_⟩) (by assumption) ?_
  rotate_left 1
  · intro w' hSw; (go_simp <;> (with_reducible rfl))
  (try simp only [Act.put, List.setIfInBounds_toArray, List.set_cons_zero, List.set_cons_succ])
  refine wpAnyH_take (i := 10) (oi := { dst := some 117, op := Go.Op.move (Go.Operand.tmp 23), type := 4, pos := "law.go:33", after := #[{ on := 8, ground := Go.Ground.guard }], guard := some (8, true) }) (v := ?_) rfl (by kernel_rfl) (by kernel_rfl) (by kernel_rfl) (fun _ _ _ h => h) (Or.inl ⟨by rfl, ?_⟩) (by assumption) ?_
  rotate_left 1
  · intro w' hSw; (go_simp <;> (with_reducible rfl))
  (try simp only [Act.put, List.setIfInBounds_toArray, List.set_cons_zero, List.set_cons_succ])
  refine wpAnyH_take (i := 11) (oi := { dst := some 118, op := Go.Op.binOp Go.BinOp.eql 4 (Go.Operand.tmp 116) (Go.Operand.tmp 117) 4, type := 4, pos := "law.go:33", after := #[{ on := 9, ground := Go.Ground.data }, { on := 10, ground := Go.Ground.data }, { on := 8, ground := Go.Ground.guard }], guard := some (8, true) }) (v := ?_) rfl (by kernel_rfl) (by kernel_rfl) (by kernel_rfl) (fun _ _ _ h => h) (Or.inl ⟨by rfl, ?_⟩) (by assumption) ?_
  rotate_left 1
  · intro w' hSw; (go_simp <;> (with_reducible rfl))
  (try simp only [Act.put, List.setIfInBounds_toArray, List.set_cons_zero, List.set_cons_succ])
  refine wpAnyH_take (i := 12) (oi := { dst := some 119, op := Go.Op.pick (Go.Operand.tmp 115) (Go.Operand.tmp 118) (Go.Operand.const (Go.Value.bool false)), type := 4, pos := "law.go:33", after := #[{ on := 8, ground := Go.Ground.data }, { on := 11, ground := Go.Ground.data }], guard := none }) (v := ?_) rfl (by kernel_rfl) (by kernel_rfl) (by kernel_rfl) (fun _ _ _ h => h) (Or.inl ⟨by rfl, ?_⟩) (by assumption) ?_
  rotate_left 1
  · intro w' hSw; (go_simp <;> (with_reducible rfl))
  (try simp only [Act.put, List.setIfInBounds_toArray, List.set_cons_zero, List.set_cons_succ])
  refine wpAnyH_take (i := 13) (oi := { dst := some 120, op := Go.Op.move (Go.Operand.tmp 119), type := 4, pos := "law.go:33", after := #[{ on := 12, ground := Go.Ground.data }, { on := 8, ground := Go.Ground.chain }], guard := none }) (v := ?_) rfl (by kernel_rfl) (by kernel_rfl) (by kernel_rfl) (fun _ _ _ h => h) (Or.inl ⟨by rfl, ?_⟩) (by assumption) ?_
  rotate_left 1
  · intro w' hSw; (go_simp <;> (with_reducible rfl))
  (try simp only [Act.put, List.setIfInBounds_toArray, List.set_cons_zero, List.set_cons_succ])
  refine wpAnyH_take (i := 14) (oi := { dst := some 121, op := Go.Op.load 25 (Go.Operand.tmp 24), type := 25, pos := "law.go:33", after := #[{ on := 13, ground := Go.Ground.guard }], guard := some (13, true) }) (v := ?_) rfl (by kernel_rfl) (by kernel_rfl) (by kernel_rfl) (fun _ _ _ h => h) (Or.inl ⟨by rfl, ?_⟩) (by assumption) ?_
  rotate_left 1
  · intro w' hSw; (go_simp <;> (with_reducible rfl))
  (try simp only [Act.put, List.setIfInBounds_toArray, List.set_cons_zero, List.set_cons_succ])
  refine wpAnyH_take (i := 15) (oi := { dst := some 122, op := Go.Op.load 25 (Go.Operand.tmp 4), type := 25, pos := "law.go:33", after := #[{ on := 13, ground := Go.Ground.guard }], guard := some (13, true) }) (v := ?_) rfl (by kernel_rfl) (by kernel_rfl) (by kernel_rfl) (fun _ _ _ h => h) (Or.inl ⟨by rfl, ?_⟩) (by assumption) ?_
  rotate_left 1
  · intro w' hSw; (go_simp <;> (with_reducible rfl))
  (try simp only [Act.put, List.setIfInBounds_toArray, List.set_cons_zero, List.set_cons_succ])
  refine wpAnyH_take (i := 16) (oi := { dst := some 123, op := Go.Op.move (Go.Operand.tmp 3), type := 26, pos := "law.go:33", after := #[{ on := 13, ground := Go.Ground.guard }], guard := some (13, true) }) (v := ?_) rfl (by kernel_rfl) (by kernel_rfl) (by kernel_rfl) (fun _ _ _ h => h) (Or.inl ⟨by rfl, ?_⟩) (by assumption) ?_
  rotate_left 1
  · intro w' hSw; (go_simp <;> (with_reducible rfl))
  (try simp only [Act.put, List.setIfInBounds_toArray, List.set_cons_zero, List.set_cons_succ])
  refine wpAnyH_ready (rs := [17]) (by kernel_rfl) (by simp) ?_
  refine AllReadyH.cons (o := { dst := some 124, op := Go.Op.call { callee := Go.Callee.value (Go.Operand.func 19), args := #[Go.Operand.tmp 122, Go.Operand.tmp 123], argTypes := #[25, 26] }, type := 25, pos := "law.go:33", after := #[{ on := 15, ground := Go.Ground.data }, { on := 16, ground := Go.Ground.data }, { on := 13, ground := Go.Ground.chain }, { on := 13, ground := Go.Ground.guard }], guard := some (13, true) }) rfl (fun K hK => ?_) AllReadyH.nil
  go_simp
  (refine (rwith8_any ⟨ty, cd, rs, d⟩ id A n c _ hrs HidB.out).mono ?_; intro e w17 h17; unfold WithIs at h17; rw [Ewm.out] at h17; obtain ⟨rfl, hb17⟩ := h17; have H17 := Lib.hid hb17; have HW17 := Lib.hid (HW.out.below hb17); clear hb17)
  refine hK.out _ _ ?_ (fun hHeld => ?_)
  · exact HS11.out _ H17.out
  clear hK K
  (try simp only [Act.put, List.setIfInBounds_toArray, List.set_cons_zero, List.set_cons_succ])
  refine wpAnyH_ready (rs := [18]) (by kernel_rfl) (by simp) ?_
  refine AllReadyH.cons (o := { dst := some 125, op := Go.Op.call { callee := Go.Callee.value (Go.Operand.func 11), args := #[Go.Operand.tmp 121, Go.Operand.tmp 124], argTypes := #[25, 25] }, type := 4, pos := "law.go:33", after := #[{ on := 14, ground := Go.Ground.data }, { on := 17, ground := Go.Ground.data }, { on := 17, ground := Go.Ground.chain }, { on := 13, ground := Go.Ground.guard }], guard := some (13, true) }) rfl (fun K hK => ?_) AllReadyH.nil
  go_simp
  (refine (rsame8_any ⟨wty, wcd, wrs, d⟩ ⟨wty, wcd, wrs, d⟩ AW n cW A n c _ true HW17.out (HK.out _ (below_trans Hb.out H17.out)).2.1 (msgSame_self _)).mono ?_; rintro e w18 ⟨rfl, hb18⟩; have H18 := Lib.hid (below_trans H17.out hb18); clear hb18)
  refine hK.out _ _ ?_ (fun hHeld => ?_)
  · exact HS11.out _ H18.out
  clear hK K
  (try simp only [Act.put, List.setIfInBounds_toArray, List.set_cons_zero, List.set_cons_succ])
  refine wpAnyH_take (i := 19) (oi := { dst := some 126, op := Go.Op.pick (Go.Operand.tmp 120) (Go.Operand.tmp 125) (Go.Operand.const (Go.Value.bool false)), type := 4, pos := "law.go:33", after := #[{ on := 13, ground := Go.Ground.data }, { on := 18, ground := Go.Ground.data }], guard := none }) (v := ?_) rfl (by kernel_rfl) (by kernel_rfl) (by kernel_rfl) (fun _ _ _ h => h) (Or.inl ⟨by rfl, ?_⟩) (by assumption) ?_
  rotate_left 1
  · intro w' hSw; (go_simp <;> (with_reducible rfl))
  (try simp only [Act.put, List.setIfInBounds_toArray, List.set_cons_zero, List.set_cons_succ])
  refine wpAnyH_take (i := 20) (oi := { dst := some 127, op := Go.Op.move (Go.Operand.tmp 126), type := 4, pos := "law.go:33", after := #[{ on := 19, ground := Go.Ground.data }, { on := 18, ground := Go.Ground.chain }], guard := none }) (v := ?_) rfl (by kernel_rfl) (by kernel_rfl) (by kernel_rfl) (fun _ _ _ h => h) (Or.inl ⟨by rfl, ?_⟩) (by assumption) ?_
  rotate_left 1
  · intro w' hSw; (go_simp <;> (with_reducible rfl))
  (try simp only [Act.put, List.setIfInBounds_toArray, List.set_cons_zero, List.set_cons_succ])
  refine wpAnyH_take (i := 21) (oi := { dst := some 128, op := Go.Op.load 25 (Go.Operand.tmp 25), type := 25, pos := "law.go:33", after := #[{ on := 20, ground := Go.Ground.guard }], guard := some (20, true) }) (v := ?_) rfl (by kernel_rfl) (by kernel_rfl) (by kernel_rfl) (fun _ _ _ h => h) (Or.inl ⟨by rfl, ?_⟩) (by assumption) ?_
  rotate_left 1
  · intro w' hSw; (go_simp <;> (with_reducible rfl))
  (try simp only [Act.put, List.setIfInBounds_toArray, List.set_cons_zero, List.set_cons_succ])
  refine wpAnyH_take (i := 22) (oi := { dst := some 129, op := Go.Op.move (Go.Operand.tmp 2), type := 23, pos := "law.go:33", after := #[{ on := 20, ground := Go.Ground.guard }], guard := some (20, true) }) (v := ?_) rfl (by kernel_rfl) (by kernel_rfl) (by kernel_rfl) (fun _ _ _ h => h) (Or.inl ⟨by rfl, ?_⟩) (by assumption) ?_
  rotate_left 1
  · intro w' hSw; (go_simp <;> (with_reducible rfl))
  (try simp only [Act.put, List.setIfInBounds_toArray, List.set_cons_zero, List.set_cons_succ])
  refine wpAnyH_ready (rs := [23]) (by kernel_rfl) (by simp) ?_
  refine AllReadyH.cons (o := { dst := some 130, op := Go.Op.call { callee := Go.Callee.value (Go.Operand.func 20), args := #[Go.Operand.tmp 129], argTypes := #[23] }, type := 25, pos := "law.go:33", after := #[{ on := 22, ground := Go.Ground.data }, { on := 20, ground := Go.Ground.chain }, { on := 20, ground := Go.Ground.guard }], guard := some (20, true) }) rfl (fun K hK => ?_) AllReadyH.nil
  go_simp
  (refine (rover8_any Ab nb cb b k68 _ (HK.out _ (below_trans Hb.out H18.out)).2.2.2 (by omega) Ek.out).mono ?_; rintro e w23 ⟨A23, c23, rfl, -, -, ho23, hb23⟩; have H23 := Lib.hid (below_trans H18.out hb23); have HZ23 := Lib.hid (ho23.rd (fun x hx => HbB.out x (List.mem_of_mem_take hx))); clear hb23 ho23)
  refine hK.out _ _ ?_ (fun hHeld => ?_)
  · exact HS11.out _ H23.out
  clear hK K
  (try simp only [Act.put, List.setIfInBounds_toArray, List.set_cons_zero, List.set_cons_succ])
  refine wpAnyH_ready (rs := [24]) (by kernel_rfl) (by simp) ?_
  refine AllReadyH.cons (o := { dst := some 131, op := Go.Op.call { callee := Go.Callee.value (Go.Operand.func 11), args := #[Go.Operand.tmp 128, Go.Operand.tmp 130], argTypes := #[25, 25] }, type := 4, pos := "law.go:33", after := #[{ on := 21, ground := Go.Ground.data }, { on := 23, ground := Go.Ground.data }, { on := 23, ground := Go.Ground.chain }, { on := 20, ground := Go.Ground.guard }], guard := some (20, true) }) rfl (fun K hK => ?_) AllReadyH.nil
  go_simp
  (refine (rsame8_any ⟨11, 0, 0, b.take k68⟩ ⟨11, 0, 0, b.take k68⟩ AZ k68 cZ A23 k68 c23 _ true (HZ.out.below H23.out) HZ23.out (msgSame_self _)).mono ?_; rintro e w24 ⟨rfl, hb24⟩; have H24 := Lib.hid (below_trans H23.out hb24); clear hb24)
  refine hK.out _ _ ?_ (fun hHeld => ?_)
  · exact HS11.out _ H24.out
  clear hK K
  (try simp only [Act.put, List.setIfInBounds_toArray, List.set_cons_zero, List.set_cons_succ])
  refine wpAnyH_take (i := 25) (oi := { dst := some 132, op := Go.Op.pick (Go.Operand.tmp 127) (Go.Operand.tmp 131) (Go.Operand.const (Go.Value.bool false)), type := 4, pos := "law.go:33", after := #[{ on := 20, ground := Go.Ground.data }, { on := 24, ground := Go.Ground.data }], guard := none }) (v := ?_) rfl (by kernel_rfl) (by kernel_rfl) (by kernel_rfl) (fun _ _ _ h => h) (Or.inl ⟨by rfl, ?_⟩) (by assumption) ?_
  rotate_left 1
  · intro w' hSw; (go_simp <;> (with_reducible rfl))
  (try simp only [Act.put, List.setIfInBounds_toArray, List.set_cons_zero, List.set_cons_succ])
  refine wpAnyH_take (i := 26) (oi := { dst := some 26, op := Go.Op.assign (Go.Operand.tmp 132), type := 4, pos := "law.go:33", after := #[{ on := 25, ground := Go.Ground.data }, { on := 24, ground := Go.Ground.chain }, { on := 0, ground := Go.Ground.phase }, { on := 1, ground := Go.Ground.phase }, { on := 2, ground := Go.Ground.phase }, { on := 3, ground := Go.Ground.phase }, { on := 4, ground := Go.Ground.phase }, { on := 5, ground := Go.Ground.phase }, { on := 6, ground := Go.Ground.phase }, { on := 7, ground := Go.Ground.phase }, { on := 8, ground := Go.Ground.phase }, { on := 9, ground := Go.Ground.phase }, { on := 10, ground := Go.Ground.phase }, { on := 11, ground := Go.Ground.phase }, { on := 12, ground := Go.Ground.phase }, { on := 13, ground := Go.Ground.phase }, { on := 14, ground := Go.Ground.phase }, { on := 15, ground := Go.Ground.phase }, { on := 16, ground := Go.Ground.phase }, { on := 17, ground := Go.Ground.phase }, { on := 18, ground := Go.Ground.phase }, { on := 19, ground := Go.Ground.phase }, { on := 20, ground := Go.Ground.phase }, { on := 21, ground := Go.Ground.phase }, { on := 22, ground := Go.Ground.phase }, { on := 23, ground := Go.Ground.phase }, { on := 24, ground := Go.Ground.phase }, { on := 25, ground := Go.Ground.phase }], guard := none }) (v := ?_) rfl (by kernel_rfl) (by kernel_rfl) (by kernel_rfl) (fun _ _ _ h => h) (Or.inl ⟨by rfl, ?_⟩) (by assumption) ?_
  rotate_left 1
  · intro w' hSw; (go_simp <;> (with_reducible rfl))
  (try simp only [Act.put, List.setIfInBounds_toArray, List.set_cons_zero, List.set_cons_succ])
  refine wpAnyH_done (by kernel_rfl) ?_ _
  have hbb := H24.out
  have HBW := Lib.hid (HBW.out.below hbb)
  have HBZ := Lib.hid (HBZ.out.below hbb)
  have HkW := Lib.hid (blk_on HkW.out hbb)
  have HkZ := Lib.hid (blk_on HkZ.out hbb)
  have HBU := Lib.hid (HBU.out.below hbb)
  have Hlo := Lib.hid (Hlo.out.trans ((hbb).mono (by have := Hlo.out.size; have := EB8.out; omega)))
  have Hb := Lib.hid (below_trans Hb.out hbb)
  have HkU := Lib.hid (blk_on HkU.out hbb)
  clear hbb hHeld H17 H18 H23 H24 HW HZ HW17 HZ23 HS11
  have hcm := conv_rd (HK.out _ Hb.out).2.1 c
  obtain ⟨⟨⟨c0, c1, c2, c3⟩, -⟩, -⟩ := HK.out _ Hb.out
  obtain ⟨u0, u1, u2, u3⟩ := cells4 HkU.out
  obtain ⟨e0, e1, e2, e3⟩ := cells4 HkW.out
  obtain ⟨f0, f1, f2, f3⟩ := cells4 HkZ.out
  go_wp2_with fail
  clear c0 c1 c2 c3 u0 u1 u2 u3 e0 e1 e2 e3 f0 f1 f2 f3 hcm
  go_loopg [143] 3 (fun gk i wr => ∃ j : Nat, Hid (gk + j = 3) ∧ j ≤ 3 ∧ i = .int .i64 (j : Int) ∧ Hid (ByRow wr B8 AU um) ∧ Hid (ByRow wr B8 AW n) ∧ Hid (ByRow wr B8 AZ k68) ∧ Hid (Below B8 w5 wr))
  case atStart => exact ⟨0, rfl, by omega, rfl, HBU, HBW, HBZ, Hlo⟩
  case round =>
    clear HBU HBW HBZ Hlo HkU HkW HkZ
    obtain ⟨j, hgk, hj, rfl, hu, hw, hz', hlo⟩ := hrel
    by_cases hj3 : j < 3
    · have hgk3 := hgk.out
      have hj0 : j = 0 ∨ j = 1 ∨ j = 2 := by omega
      obtain rfl : gk = 3 - j := by omega
      clear hgk hgk3 hj hj3
      have hx0 := fun W => index3_0 (.slice AU um cU) (.slice AW n cW) (.slice AZ k68 cZ) W
      have hx1 := fun W => index3_1 (.slice AU um cU) (.slice AW n cW) (.slice AZ k68 cZ) W
      have hx2 := fun W => index3_2 (.slice AU um cU) (.slice AW n cW) (.slice AZ k68 cZ) W
      rcases hj0 with rfl | rfl | rfl
      ·
        go_wp2_with fail
        clear hx0 hx1 hx2
        go_loopg [30] um (fun gk2 i wr2 => ∃ k : Nat, Hid (gk2 + k = um) ∧ k ≤ um ∧ i = .int .i64 (k : Int) ∧ Hid (ByRow wr2 B8 AU um) ∧ Hid (ByRow wr2 B8 AW n) ∧ Hid (ByRow wr2 B8 AZ k68) ∧ Hid (Below B8 w5 wr2))
        case atStart => exact ⟨0, rfl, Nat.zero_le _, rfl, hu, hw, hz', hlo⟩
        case round =>
          clear hu hw hz' hlo
          obtain ⟨k, hgk2, hk, rfl, hu, hw, hz', hlo⟩ := hrel
          by_cases hkm : k < um
          · obtain ⟨g, y, eA, hgB, hix, hcy, hfy⟩ := hu.out.index cU k hkm
            have Hu2 := Lib.hid (fun v : Int => hu.out.set_ g k v)
            have Hw2 := Lib.hid (fun v : Int => hw.out.set_ g k v)
            have Hz2 := Lib.hid (fun v : Int => hz'.out.set_ g k v)
            have Hl2 := Lib.hid (fun v : Value => hlo.out.setCell (p := ⟨g, k, none⟩) hgB v)
            have hki : (k : Int) < (um : Int) := by omega
            subst eA
            clear hu hw hz' hlo
            go_wp2_with fail
            go_roundg (gk - 1)
            case measure => have := hgk2.out; omega
            case rel => exact ⟨k + 1, by have := hgk2.out; show gk - 1 + (k + 1) = _; omega, by omega, by go_num, Lib.hid (Hu2.out _), Lib.hid (Hw2.out _), Lib.hid (Hz2.out _), Lib.hid (Hl2.out _)⟩
          · obtain rfl : k = um := by omega
            go_wp2_with fail
            go_roundg (3 - 1)
            case measure => omega
            case rel => exact ⟨1, (show 3 - 1 + 1 = 3 by omega), by omega, by go_num, hu, hw, hz', hlo⟩
      ·
        go_wp2_with fail
        clear hx0 hx1 hx2
        go_loopg [30] n (fun gk2 i wr2 => ∃ k : Nat, Hid (gk2 + k = n) ∧ k ≤ n ∧ i = .int .i64 (k : Int) ∧ Hid (ByRow wr2 B8 AU um) ∧ Hid (ByRow wr2 B8 AW n) ∧ Hid (ByRow wr2 B8 AZ k68) ∧ Hid (Below B8 w5 wr2))
        case atStart => exact ⟨0, rfl, Nat.zero_le _, rfl, hu, hw, hz', hlo⟩
        case round =>
          clear hu hw hz' hlo
          obtain ⟨k, hgk2, hk, rfl, hu, hw, hz', hlo⟩ := hrel
          by_cases hkm : k < n
          · obtain ⟨g, y, eA, hgB, hix, hcy, hfy⟩ := hw.out.index cW k hkm
            have Hu2 := Lib.hid (fun v : Int => hu.out.set_ g k v)
            have Hw2 := Lib.hid (fun v : Int => hw.out.set_ g k v)
            have Hz2 := Lib.hid (fun v : Int => hz'.out.set_ g k v)
            have Hl2 := Lib.hid (fun v : Value => hlo.out.setCell (p := ⟨g, k, none⟩) hgB v)
            have hki : (k : Int) < (n : Int) := by omega
            subst eA
            clear hu hw hz' hlo
            go_wp2_with fail
            go_roundg (gk - 1)
            case measure => have := hgk2.out; omega
            case rel => exact ⟨k + 1, by have := hgk2.out; show gk - 1 + (k + 1) = _; omega, by omega, by go_num, Lib.hid (Hu2.out _), Lib.hid (Hw2.out _), Lib.hid (Hz2.out _), Lib.hid (Hl2.out _)⟩
          · obtain rfl : k = n := by omega
            go_wp2_with fail
            go_roundg (3 - 2)
            case measure => omega
            case rel => exact ⟨2, (show 3 - 2 + 2 = 3 by omega), by omega, by go_num, hu, hw, hz', hlo⟩
      ·
        go_wp2_with fail
        clear hx0 hx1 hx2
        go_loopg [30] k68 (fun gk2 i wr2 => ∃ k : Nat, Hid (gk2 + k = k68) ∧ k ≤ k68 ∧ i = .int .i64 (k : Int) ∧ Hid (ByRow wr2 B8 AU um) ∧ Hid (ByRow wr2 B8 AW n) ∧ Hid (ByRow wr2 B8 AZ k68) ∧ Hid (Below B8 w5 wr2))
        case atStart => exact ⟨0, rfl, Nat.zero_le _, rfl, hu, hw, hz', hlo⟩
        case round =>
          clear hu hw hz' hlo
          obtain ⟨k, hgk2, hk, rfl, hu, hw, hz', hlo⟩ := hrel
          by_cases hkm : k < k68
          · obtain ⟨g, y, eA, hgB, hix, hcy, hfy⟩ := hz'.out.index cZ k hkm
            have Hu2 := Lib.hid (fun v : Int => hu.out.set_ g k v)
            have Hw2 := Lib.hid (fun v : Int => hw.out.set_ g k v)
            have Hz2 := Lib.hid (fun v : Int => hz'.out.set_ g k v)
            have Hl2 := Lib.hid (fun v : Value => hlo.out.setCell (p := ⟨g, k, none⟩) hgB v)
            have hki : (k : Int) < (k68 : Int) := by omega
            subst eA
            clear hu hw hz' hlo
            go_wp2_with fail
            go_roundg (gk - 1)
            case measure => have := hgk2.out; omega
            case rel => exact ⟨k + 1, by have := hgk2.out; show gk - 1 + (k + 1) = _; omega, by omega, by go_num, Lib.hid (Hu2.out _), Lib.hid (Hw2.out _), Lib.hid (Hz2.out _), Lib.hid (Hl2.out _)⟩
          · obtain rfl : k = k68 := by omega
            go_wp2_with fail
            go_roundg (3 - 3)
            case measure => omega
            case rel => exact ⟨3, (show 3 - 3 + 3 = 3 by omega), by omega, by go_num, hu, hw, hz', hlo⟩
    · obtain rfl : j = 3 := by omega
      have hlo2 := hlo.out
      rw [← EB8.out] at hlo2
      have Hb := Lib.hid (below_trans HbP.out hlo2)
      have HO := Lib.hid (HOP.out.on hlo2)
      clear hlo2 hu hw hz' hlo
      obtain ⟨⟨⟨c0, c1, c2, c3⟩, -⟩, hrm, -, hrb⟩ := HK.out _ Hb.out
      have hcm := conv_rd hrm c
      have hcb := conv_rd hrb cb
      have hco := conv_rd (HO.out.rd HbB.out) c7
      clear hrm hrb
      go_wp2_with fail
      refine (wakes_any _).mono ?_
      rintro e w50 ⟨rfl, hb50⟩
      have Hbb := Lib.hid (below_trans HbW.out (below_trans Hb.out hb50))
      clear hb50 c0 c1 c2 c3 hcm hcb hco
      go_wp2_with fail
      go_ret
      exact ⟨rfl, Hbb.out⟩
theorem own : ownKnob Try.prog.godebug = none := by kernel_rfl
theorem laidOut : laidOutB Try.prog = true := by kernel_rfl

set_option maxRecDepth 100000 in
theorem lifted (os : Os) (started : os.Started) (H : Type) (enc : TypeId × Value → H) :
    ReturnsInHanded {} Try.checked os 3 .any (Rows.icmpCallsSpec.pre6 enc Try.prog Try.f3 Rows.icmpCallsRow.domain false) (Rows.icmpCallsSpec.post enc Try.prog Try.f3 false true false false) := by
  refine returnsInHanded_of_change_sized (C := Try.checked) own started (by kernel_rfl) Try.func3
    (ChangeSpec.witness6 (enc := enc) (C := Try.checked) false ⟨#[], #[(.agg #[.int .u8 0, .int .u8 0, .int .u32 0, .slice none 0 0]), (.agg #[.int .u8 0, .int .u8 0, .int .u32 0, .slice none 0 0]), (.slice none 0 0), .int .u16 0], []⟩ 8 (by kernel_rfl) (by kernel_rfl) (by kernel_rfl) (by kernel_rfl)) ?_
  intro W base args ds gs before hval0 hW hcnd hsz0 _
  have hsz : (DataW.weightsEach Try.prog (Try.f3.params.toList ++ Rows.icmpCallsSpec.plain.varTypes Try.prog) (ds ++ gs)).all (· ≤ reachBytes) = true := hsz0
  have hval : ∀ (j : Nat) t v, Try.f3.params[j]? = some t → args[j]? = some v → Value.okWide Try.prog W .any base t v := hval0
  have hW' := hW
  obtain ⟨p, q, hA0, hV, rfl, hfz, hnd⟩ := hW
  have hA : DataW.TrodAll enc Try.prog W 0 (fun _ => true) true Try.f3.params.toList args.toList ds p := hA0
  rw [Try.params3] at hA hval hsz
  obtain ⟨v0, vs0, d0, ds0, p0, q0, hargs, rfl, rfl, h0, r0⟩ := trodAll_cons hA
  obtain ⟨v1, vs1, d1, ds1, p1, q1, rfl, rfl, rfl, h1, r1⟩ := trodAll_cons r0
  obtain ⟨v2, vs2, d2, ds2, p2, q2, rfl, rfl, rfl, h2, r2⟩ := trodAll_cons r1
  obtain ⟨v3, vs3, d3, ds3, p3, q3, rfl, rfl, rfl, h3, r3⟩ := trodAll_cons r2
  obtain ⟨rfl, rfl, rfl⟩ := trodAll_nil r3
  obtain rfl : args = #[v0, v1, v2, v3] := by cases args; simp_all
  obtain ⟨rfl, rfl⟩ := trodVars_none hV
  have k0 := msg_sized (hval 0 25 v0 rfl rfl) h0 (fun k hk => by have := List.all_eq_true.1 hsz k (DataW.weights_mem_each (j := 0) (t := 25) rfl rfl k hk); simpa using this)
  have lt0 : ∀ x ∈ p0, x.block < W.heap.size := by obtain ⟨m, hm⟩ := h0; exact DataW.trod_lt m _ _ _ hm
  have k1 := msg_sized (hval 1 25 v1 rfl rfl) h1 (fun k hk => by have := List.all_eq_true.1 hsz k (DataW.weights_mem_each (j := 1) (t := 25) rfl rfl k hk); simpa using this)
  have lt1 : ∀ x ∈ p1, x.block < W.heap.size := by obtain ⟨m, hm⟩ := h1; exact DataW.trod_lt m _ _ _ hm
  have k2 := bytes_open (hval 2 23 v2 rfl rfl) h2 (fun elems spare e => by subst e; exact sized_slice hsz (j := 2) (t := 23) (e := 5) rfl rfl Try.underlying23)
  have lt2 : ∀ x ∈ p2, x.block < W.heap.size := by obtain ⟨m, hm⟩ := h2; exact DataW.trod_lt m _ _ _ hm
  obtain ⟨a3, rfl, rfl, rfl, w3⟩ := open_int Try.underlying26 (hval 3 26 v3 rfl rfl) h3
  clear hA0 hval0
  refine (walk W v0 k0 v1 k1 v2 k2 a3 w3).mono fun e W' ⟨he, bel⟩ => ?_
  subst he
  exact ⟨_, rfl, _, _, _, [], _, [], hW', trodAll_mk1 (shut_bool Try.underlying4 _), (trodAll_cons_mk (Below.trod laidOut (by kernel_rfl) (of_decide_eq_true (by kernel_rfl)) h0 bel lt0) (trodAll_cons_mk (Below.trod laidOut (by kernel_rfl) (of_decide_eq_true (by kernel_rfl)) h1 bel lt1) (trodAll_cons_mk (Below.trod laidOut (by kernel_rfl) (of_decide_eq_true (by kernel_rfl)) h2 bel lt2) (trodAll_cons_mk (shut_int Try.underlying26 w3) trodAll_mk0)))), rfl, bel.frame _, fun h => by cases h⟩

theorem over : Rows.icmpCallsRow.holds Try.pinned (OpenSpec.ofChange Rows.icmpCallsSpec) :=
  OpenClaim.holds_of_wide 3 Try.f3 rfl rfl rfl rfl rfl rfl rfl ⟨rfl, rfl, rfl, rfl, rfl⟩ rfl rfl rfl rfl rfl (by kernel_rfl) Try.func3 (by kernel_rfl)
    (of_decide_eq_true (by kernel_rfl)) (by unfold Func.isWrapper; first | (rw [if_pos (by decide +kernel)]; kernel_rfl) | (rw [if_neg (by decide +kernel)]; exact ⟨rfl, rfl⟩))
    (fun os started H enc _ => lifted os started H enc)

/-- The statement. -/
theorem proved : Rows.IcmpCallsSaid := over
#print axioms proved
end Go.Proofs.Ytcdflpfgjodeaaa.icmpCalls
