/- SoundLosses, walked. -/
import Derived.Test.YtoipafnlcchmbaaGreatDoorQPx
import Derived.Test.YtoipafnlcchmbaaGreatDoorQH
import Derived.Test.YtoipafnlcchmbaaGreatDoorQEx
import Derived.Test.YtoipafnlcchmbaaGreatDoorQF
namespace Go.Proofs.YtoipafnlcchmbaaGreatDoor
open Go.RowKit

theorem eq_same8 (r0 r1 r2 r3 r4 r5 r6 r7 : Int) (w : World) : (Op.equalIn 10000 81 (.agg #[.int .i64 r0, .int .i64 r1, .int .i64 r2, .int .i64 r3, .int .i64 r4, .int .i64 r5, .int .i64 r6, .int .i64 r7]) (.agg #[.int .i64 r0, .int .i64 r1, .int .i64 r2, .int .i64 r3, .int .i64 r4, .int .i64 r5, .int .i64 r6, .int .i64 r7])).run Tryz.prog w = .ok true w := by
  obtain ⟨i, hi⟩ : ∃ i, Tryz.prog.info? 3 = some i := Option.isSome_iff_exists.1 (by kernel_rfl)
  rw [run_equalIn_array w 9999 (n := 8) (e := 3) (i := i) _ _ (by kernel_rfl) hi]
  rw [show Tryz.prog.cellsOf 3 = 1 by kernel_rfl]
  have h := run_eqItems_int (P := Tryz.prog) w 9998 (e := 3) (k := .i64) Tryz.underlying3 #[.int .i64 r0, .int .i64 r1, .int .i64 r2, .int .i64 r3, .int .i64 r4, .int .i64 r5, .int .i64 r6, .int .i64 r7] #[.int .i64 r0, .int .i64 r1, .int .i64 r2, .int .i64 r3, .int .i64 r4, .int .i64 r5, .int .i64 r6, .int .i64 r7] (fun j => [r0, r1, r2, r3, r4, r5, r6, r7].getD j 0) (fun j => [r0, r1, r2, r3, r4, r5, r6, r7].getD j 0) (List.range 8) (fun j hj => by
    have hj8 : j < 8 := List.mem_range.1 hj
    match j, hj8 with
    | 0, _ => exact ⟨rfl, rfl⟩
    | 1, _ => exact ⟨rfl, rfl⟩
    | 2, _ => exact ⟨rfl, rfl⟩
    | 3, _ => exact ⟨rfl, rfl⟩
    | 4, _ => exact ⟨rfl, rfl⟩
    | 5, _ => exact ⟨rfl, rfl⟩
    | 6, _ => exact ⟨rfl, rfl⟩
    | 7, _ => exact ⟨rfl, rfl⟩)
  rw [show eqB (List.range 8) (fun j => [r0, r1, r2, r3, r4, r5, r6, r7].getD j 0) (fun j => [r0, r1, r2, r3, r4, r5, r6, r7].getD j 0) = true by unfold eqB; simp] at h
  exact h
theorem rangeE : intervalE (rangeI 0 10000000000000) = intervalE checkEnergyE := rfl
theorem rangeF : intervalE (rangeI 0 1000) = intervalE checkFactorE := rfl
theorem results4x {w : World} {g : Nat} {t : TypeId} {a0 a1 a2 a3 : Value} (h : Blk w g t #[a0, a1, a2, a3]) : w.cell? ⟨g, 0, none⟩ = some a0 ∧ w.cell? ⟨g, 1, none⟩ = some a1 ∧ w.cell? ⟨g, 2, none⟩ = some a2 ∧ w.cell? ⟨g, 3, none⟩ = some a3 := ⟨h.cell 0, h.cell 1, h.cell 2, h.cell 3⟩
/-- Weighted, whatever its arguments. -/
theorem Weighted_all (s0 s1 s2 s3 s4 s5 s6 s7 v0 v1 v2 v3 v4 v5 v6 v7 : Int) : ∃ r0 r1 r2 r3 r4 r5 r6 r7 : Int, (weightedErr [s0, s1, s2, s3, s4, s5, s6, s7] [v0, v1, v2, v3, v4, v5, v6, v7] = 0 → r0 = wgt s0 v0 ∧ r1 = wgt s1 v1 ∧ r2 = wgt s2 v2 ∧ r3 = wgt s3 v3 ∧ r4 = wgt s4 v4 ∧ r5 = wgt s5 v5 ∧ r6 = wgt s6 v6 ∧ r7 = wgt s7 v7) ∧ (weightedErr [s0, s1, s2, s3, s4, s5, s6, s7] [v0, v1, v2, v3, v4, v5, v6, v7] ≠ 0 → r0 = 0 ∧ r1 = 0 ∧ r2 = 0 ∧ r3 = 0 ∧ r4 = 0 ∧ r5 = 0 ∧ r6 = 0 ∧ r7 = 0) ∧
    ∀ w : World, Calls Tryz.prog 60 #[.agg #[.int .i64 s0, .int .i64 s1, .int .i64 s2, .int .i64 s3, .int .i64 s4, .int .i64 s5, .int .i64 s6, .int .i64 s7], .agg #[.int .i64 v0, .int .i64 v1, .int .i64 v2, .int .i64 v3, .int .i64 v4, .int .i64 v5, .int .i64 v6, .int .i64 v7]] w fun e w' => e = .returned (.tuple #[.agg #[.int .i64 r0, .int .i64 r1, .int .i64 r2, .int .i64 r3, .int .i64 r4, .int .i64 r5, .int .i64 r6, .int .i64 r7], .int .i64 (weightedErr [s0, s1, s2, s3, s4, s5, s6, s7] [v0, v1, v2, v3, v4, v5, v6, v7])]) ∧ Below w.heap.size w w' := by
  by_cases h : weightedErr [s0, s1, s2, s3, s4, s5, s6, s7] [v0, v1, v2, v3, v4, v5, v6, v7] = 0
  · refine ⟨wgt s0 v0, wgt s1 v1, wgt s2 v2, wgt s3 v3, wgt s4 v4, wgt s5 v5, wgt s6 v6, wgt s7 v7, fun _ => ⟨rfl, rfl, rfl, rfl, rfl, rfl, rfl, rfl⟩, fun hn => absurd h hn, fun w => ?_⟩
    rw [h]
    exact Weighted_good s0 s1 s2 s3 s4 s5 s6 s7 v0 v1 v2 v3 v4 v5 v6 v7 w h
  · exact ⟨0, 0, 0, 0, 0, 0, 0, 0, fun hn => absurd hn h, fun _ => ⟨rfl, rfl, rfl, rfl, rfl, rfl, rfl, rfl⟩, fun w => Weighted_bad s0 s1 s2 s3 s4 s5 s6 s7 v0 v1 v2 v3 v4 v5 v6 v7 w h⟩

attribute [local go_sem] eq_same8
set_option maxHeartbeats 8000000 in
set_option maxRecDepth 100000 in
theorem losses_walk (s0 s1 s2 s3 s4 s5 s6 s7 v0 v1 v2 v3 v4 v5 v6 v7 el eh fl fh : Int) (w : World) (hst : Steps w) (ht : Tab w) :
    Calls Tryz.prog 8 #[.agg #[.int .i64 s0, .int .i64 s1, .int .i64 s2, .int .i64 s3, .int .i64 s4, .int .i64 s5, .int .i64 s6, .int .i64 s7], .agg #[.int .i64 v0, .int .i64 v1, .int .i64 v2, .int .i64 v3, .int .i64 v4, .int .i64 v5, .int .i64 v6, .int .i64 v7], .agg #[.int .i64 el, .int .i64 eh, .int .i64 fl, .int .i64 fh]] w fun x w' => x = .returned (.bool true) ∧ Below w.heap.size w w' := by
  have HS_ := Lib.hid hst
  have HT_ := Lib.hid ht
  clear hst ht
  obtain ⟨r0, r1, r2, r3, r4, r5, r6, r7, hr0, hr1, hW⟩ := Weighted_all s0 s1 s2 s3 s4 s5 s6 s7 v0 v1 v2 v3 v4 v5 v6 v7
  obtain ⟨E, hE⟩ : ∃ E, E = weightedErr [s0, s1, s2, s3, s4, s5, s6, s7] [v0, v1, v2, v3, v4, v5, v6, v7] := ⟨_, rfl⟩
  rw [← hE] at hr0 hr1 hW
  have HE := Lib.hid hE
  have HR0 := Lib.hid hr0
  have HR1 := Lib.hid hr1
  have HW := Lib.hid hW
  obtain ⟨F, hF⟩ : ∃ F, F = throughErr el eh fl fh := ⟨_, rfl⟩
  obtain ⟨lo, hlo⟩ : ∃ F, F = throughLow el eh fl fh := ⟨_, rfl⟩
  obtain ⟨hi, hhi⟩ : ∃ F, F = throughHigh el eh fl fh := ⟨_, rfl⟩
  have HF := Lib.hid hF
  have HLO := Lib.hid hlo
  have HHI := Lib.hid hhi
  clear hE hr0 hr1 hW hF hlo hhi
  go_enter Tryz.func8, Tryz.ntmps8
  go_upto_region 1 with fail
  obtain ⟨w0, hw0⟩ : ∃ X, X = ((w.alloc (.cells #[.int .i64 s0, .int .i64 s1, .int .i64 s2, .int .i64 s3, .int .i64 s4, .int .i64 s5, .int .i64 s6, .int .i64 s7] 81)).alloc (.cells #[.int .i64 v0, .int .i64 v1, .int .i64 v2, .int .i64 v3, .int .i64 v4, .int .i64 v5, .int .i64 v6, .int .i64 v7] 80)).alloc (.cells #[.int .i64 el, .int .i64 eh, .int .i64 fl, .int .i64 fh] 83) := ⟨_, rfl⟩
  rw [← hw0]
  have HS0 : Hid (Blk w0 w.heap.size 81 #[.int .i64 s0, .int .i64 s1, .int .i64 s2, .int .i64 s3, .int .i64 s4, .int .i64 s5, .int .i64 s6, .int .i64 s7]) := by show Blk _ _ _ _; rw [hw0]; exact ((Blk.new _ _ _).alloc _).alloc _
  have HV0 : Hid (Blk w0 (w.heap.size + 1) 80 #[.int .i64 v0, .int .i64 v1, .int .i64 v2, .int .i64 v3, .int .i64 v4, .int .i64 v5, .int .i64 v6, .int .i64 v7]) := by show Blk _ _ _ _; rw [hw0]; exact (Blk.at_size _ _ (by simp)).alloc _
  have HX0 : Hid (Blk w0 (w.heap.size + 1 + 1) 83 #[.int .i64 el, .int .i64 eh, .int .i64 fl, .int .i64 fh]) := by show Blk _ _ _ _; rw [hw0]; exact Blk.at_size _ _ (by simp)
  have HB0 : Hid (Below w.heap.size w w0) := by show Below _ _ _; rw [hw0]; exact (((Below.refl _ _).alloc (Nat.le_refl _) _).alloc (by simp) _).alloc (by simp; omega) _
  obtain ⟨gs, hgs⟩ : ∃ g, g = w.heap.size := ⟨_, rfl⟩
  obtain ⟨gv, hgv⟩ : ∃ g, g = w.heap.size + 1 := ⟨_, rfl⟩
  obtain ⟨gx, hgx⟩ : ∃ g, g = w.heap.size + 1 + 1 := ⟨_, rfl⟩
  rw [← hgx] at HX0
  rw [← hgv] at HV0
  rw [← hgs] at HS0
  rw [← hgx, ← hgv, ← hgs]
  have HG : Hid (w.heap.size ≤ gs ∧ w.heap.size ≤ gv ∧ w.heap.size ≤ gx) := by show _ ∧ _ ∧ _; omega
  clear hw0 hgs hgv hgx

  have HSc0 := HS0.out.cell 0; have HSc1 := HS0.out.cell 1; have HSc2 := HS0.out.cell 2; have HSc3 := HS0.out.cell 3; have HSc4 := HS0.out.cell 4; have HSc5 := HS0.out.cell 5; have HSc6 := HS0.out.cell 6; have HSc7 := HS0.out.cell 7
  simp only [List.getElem?_toArray, List.getElem?_cons_zero, List.getElem?_cons_succ] at HSc0 HSc1 HSc2 HSc3 HSc4 HSc5 HSc6 HSc7
  have HVc0 := HV0.out.cell 0; have HVc1 := HV0.out.cell 1; have HVc2 := HV0.out.cell 2; have HVc3 := HV0.out.cell 3; have HVc4 := HV0.out.cell 4; have HVc5 := HV0.out.cell 5; have HVc6 := HV0.out.cell 6; have HVc7 := HV0.out.cell 7
  simp only [List.getElem?_toArray, List.getElem?_cons_zero, List.getElem?_cons_succ] at HVc0 HVc1 HVc2 HVc3 HVc4 HVc5 HVc6 HVc7
  go_wp2_with fail
  refine Calls.mono (HW.out _) ?_
  rintro x w1 ⟨rfl, hb⟩
  clear HSc0 HSc1 HSc2 HSc3 HSc4 HSc5 HSc6 HSc7
  clear HVc0 HVc1 HVc2 HVc3 HVc4 HVc5 HVc6 HVc7
  have HB1 := Lib.hid (HB0.out.trans (Below.mono hb HB0.out.size))
  have HS1 := Lib.hid (HS0.out.below hb)
  have HV1 := Lib.hid (HV0.out.below hb)
  have HX1 := Lib.hid (HX0.out.below hb)
  clear HB0 HS0 HV0 HX0
  clear hb HW
  go_upto_region 2 with fail
  obtain ⟨w2, hX⟩ : ∃ X, X = w1.alloc (.cells #[.int .i64 r0, .int .i64 r1, .int .i64 r2, .int .i64 r3, .int .i64 r4, .int .i64 r5, .int .i64 r6, .int .i64 r7] 81) := ⟨_, rfl⟩
  rw [← hX]
  obtain ⟨hk, hb⟩ := box_facts _ _ w2 hX
  have HB2 := Lib.hid (HB1.out.trans (Below.mono hb HB1.out.size))
  have HS2 := Lib.hid (HS1.out.below hb)
  have HV2 := Lib.hid (HV1.out.below hb)
  have HX2 := Lib.hid (HX1.out.below hb)
  clear HB1 HS1 HV1 HX1
  have HR2 := Lib.hid hk
  obtain ⟨gr, hg⟩ : ∃ g, g = w1.heap.size := ⟨_, rfl⟩
  rw [← hg] at HR2 ⊢
  clear hb hk hX hg
  have HXc0 := HX2.out.cell 0; have HXc1 := HX2.out.cell 1; have HXc2 := HX2.out.cell 2; have HXc3 := HX2.out.cell 3
  simp only [List.getElem?_toArray, List.getElem?_cons_zero, List.getElem?_cons_succ] at HXc0 HXc1 HXc2 HXc3
  go_wp2_with fail
  refine Calls.mono (Through_any el eh fl fh _) ?_
  rintro x w3 ⟨rfl, hb⟩
  rw [← HLO.out, ← HHI.out, ← HF.out]
  clear HXc0 HXc1 HXc2 HXc3
  have HB3 := Lib.hid (HB2.out.trans (Below.mono hb HB2.out.size))
  have HS3 := Lib.hid (HS2.out.below hb)
  have HV3 := Lib.hid (HV2.out.below hb)
  have HX3 := Lib.hid (HX2.out.below hb)
  have HR3 := Lib.hid (HR2.out.below hb)
  clear HB2 HS2 HV2 HX2 HR2
  clear hb
  go_upto_region 3 with fail
  obtain ⟨w4, hX⟩ : ∃ X, X = w3.alloc (.cells #[.int .i64 lo, .int .i64 hi] 49) := ⟨_, rfl⟩
  rw [← hX]
  obtain ⟨hk, hb⟩ := box_facts _ _ w4 hX
  have HB4 := Lib.hid (HB3.out.trans (Below.mono hb HB3.out.size))
  have HS4 := Lib.hid (HS3.out.below hb)
  have HV4 := Lib.hid (HV3.out.below hb)
  have HX4 := Lib.hid (HX3.out.below hb)
  have HR4 := Lib.hid (HR3.out.below hb)
  clear HB3 HS3 HV3 HX3 HR3
  have HI4 := Lib.hid hk
  obtain ⟨gt, hg⟩ : ∃ g, g = w3.heap.size := ⟨_, rfl⟩
  rw [← hg] at HI4 ⊢
  clear hb hk hX hg
  have HSc0 := HS4.out.cell 0; have HSc1 := HS4.out.cell 1; have HSc2 := HS4.out.cell 2; have HSc3 := HS4.out.cell 3; have HSc4 := HS4.out.cell 4; have HSc5 := HS4.out.cell 5; have HSc6 := HS4.out.cell 6; have HSc7 := HS4.out.cell 7
  simp only [List.getElem?_toArray, List.getElem?_cons_zero, List.getElem?_cons_succ] at HSc0 HSc1 HSc2 HSc3 HSc4 HSc5 HSc6 HSc7
  have HVc0 := HV4.out.cell 0; have HVc1 := HV4.out.cell 1; have HVc2 := HV4.out.cell 2; have HVc3 := HV4.out.cell 3; have HVc4 := HV4.out.cell 4; have HVc5 := HV4.out.cell 5; have HVc6 := HV4.out.cell 6; have HVc7 := HV4.out.cell 7
  simp only [List.getElem?_toArray, List.getElem?_cons_zero, List.getElem?_cons_succ] at HVc0 HVc1 HVc2 HVc3 HVc4 HVc5 HVc6 HVc7
  go_region_held3 (fun W => (W.cell? ⟨gs, 0, none⟩ = some (.int .i64 s0) ∧ W.cell? ⟨gs, 1, none⟩ = some (.int .i64 s1) ∧ W.cell? ⟨gs, 2, none⟩ = some (.int .i64 s2) ∧ W.cell? ⟨gs, 3, none⟩ = some (.int .i64 s3) ∧ W.cell? ⟨gs, 4, none⟩ = some (.int .i64 s4) ∧ W.cell? ⟨gs, 5, none⟩ = some (.int .i64 s5) ∧ W.cell? ⟨gs, 6, none⟩ = some (.int .i64 s6) ∧ W.cell? ⟨gs, 7, none⟩ = some (.int .i64 s7)) ∧ (W.cell? ⟨gv, 0, none⟩ = some (.int .i64 v0) ∧ W.cell? ⟨gv, 1, none⟩ = some (.int .i64 v1) ∧ W.cell? ⟨gv, 2, none⟩ = some (.int .i64 v2) ∧ W.cell? ⟨gv, 3, none⟩ = some (.int .i64 v3) ∧ W.cell? ⟨gv, 4, none⟩ = some (.int .i64 v4) ∧ W.cell? ⟨gv, 5, none⟩ = some (.int .i64 v5) ∧ W.cell? ⟨gv, 6, none⟩ = some (.int .i64 v6) ∧ W.cell? ⟨gv, 7, none⟩ = some (.int .i64 v7)))
    (first | with_reducible exact ⟨results8 HS4.out.drew, results8 HV4.out.drew⟩ | with_reducible exact ⟨results8 (HS4.out.drew.below G1.out), results8 (HV4.out.drew.below G1.out)⟩ | with_reducible exact ⟨results8 ((HS4.out.drew.below G1.out).below G2.out), results8 ((HV4.out.drew.below G1.out).below G2.out)⟩ | go_keep)
    (first
      | (go_at_call 62; refine (refCheckSpectrum_any s0 s1 s2 s3 s4 s5 s6 s7 _).mono ?_; rintro e w5 ⟨rfl, hb1⟩; have K : Hid ((w5.cell? ⟨gs, 0, none⟩ = some (.int .i64 s0) ∧ w5.cell? ⟨gs, 1, none⟩ = some (.int .i64 s1) ∧ w5.cell? ⟨gs, 2, none⟩ = some (.int .i64 s2) ∧ w5.cell? ⟨gs, 3, none⟩ = some (.int .i64 s3) ∧ w5.cell? ⟨gs, 4, none⟩ = some (.int .i64 s4) ∧ w5.cell? ⟨gs, 5, none⟩ = some (.int .i64 s5) ∧ w5.cell? ⟨gs, 6, none⟩ = some (.int .i64 s6) ∧ w5.cell? ⟨gs, 7, none⟩ = some (.int .i64 s7)) ∧ (w5.cell? ⟨gv, 0, none⟩ = some (.int .i64 v0) ∧ w5.cell? ⟨gv, 1, none⟩ = some (.int .i64 v1) ∧ w5.cell? ⟨gv, 2, none⟩ = some (.int .i64 v2) ∧ w5.cell? ⟨gv, 3, none⟩ = some (.int .i64 v3) ∧ w5.cell? ⟨gv, 4, none⟩ = some (.int .i64 v4) ∧ w5.cell? ⟨gv, 5, none⟩ = some (.int .i64 v5) ∧ w5.cell? ⟨gv, 6, none⟩ = some (.int .i64 v6) ∧ w5.cell? ⟨gv, 7, none⟩ = some (.int .i64 v7))) := ⟨results8 (HS4.out.drew.below hb1), results8 (HV4.out.drew.below hb1)⟩; have G1 := Lib.hid hb1; clear hb1)
      | (go_at_call 63; refine (refCheckWeights_any v0 v1 v2 v3 v4 v5 v6 v7 _).mono ?_; rintro e w6 ⟨rfl, hb2⟩; have G2 := Lib.hid hb2; clear hb2)
      | (go_at_call 47; refine (refFirst2 _ _ (firstInE checkEnergyE [s0, s1, s2, s3, s4, s5, s6, s7]) (firstInE checkFactorE [v0, v1, v2, v3, v4, v5, v6, v7]) _ (by go_simp) (by go_simp)).mono ?_; rw [show firstE [firstInE checkEnergyE [s0, s1, s2, s3, s4, s5, s6, s7], firstInE checkFactorE [v0, v1, v2, v3, v4, v5, v6, v7]] = E from HE.out.symm]; rintro e w7 ⟨rfl, rfl⟩))
  clear HSc0 HSc1 HSc2 HSc3 HSc4 HSc5 HSc6 HSc7
  clear HVc0 HVc1 HVc2 HVc3 HVc4 HVc5 HVc6 HVc7
  obtain ⟨w8, hX⟩ : ∃ X, X = w6.alloc (.cells #[.int .i64 (firstInE checkEnergyE [s0, s1, s2, s3, s4, s5, s6, s7]), .int .i64 (firstInE checkFactorE [v0, v1, v2, v3, v4, v5, v6, v7])] 3) := ⟨_, rfl⟩
  rw [← hX]
  have hb : Below w4.heap.size w4 w8 := by rw [hX]; exact (((Below.refl _ w4).drew.trans G1.out).trans (G2.out.mono G1.out.size)).alloc (Nat.le_trans G1.out.size G2.out.size) _
  have HB5 := Lib.hid (HB4.out.trans (Below.mono hb HB4.out.size))
  have HS5 := Lib.hid (HS4.out.below hb)
  have HV5 := Lib.hid (HV4.out.below hb)
  have HX5 := Lib.hid (HX4.out.below hb)
  have HR5 := Lib.hid (HR4.out.below hb)
  have HI5 := Lib.hid (HI4.out.below hb)
  clear HB4 HS4 HV4 HX4 HR4 HI4
  clear hb hX G1 G2 K
  have HXc0 := HX5.out.cell 0; have HXc1 := HX5.out.cell 1; have HXc2 := HX5.out.cell 2; have HXc3 := HX5.out.cell 3
  simp only [List.getElem?_toArray, List.getElem?_cons_zero, List.getElem?_cons_succ] at HXc0 HXc1 HXc2 HXc3
  go_upto_region 4 with fail
  go_region_held3 (fun W => W.cell? ⟨gx, 0, none⟩ = some (.int .i64 el) ∧ W.cell? ⟨gx, 1, none⟩ = some (.int .i64 eh) ∧ W.cell? ⟨gx, 2, none⟩ = some (.int .i64 fl) ∧ W.cell? ⟨gx, 3, none⟩ = some (.int .i64 fh))
    (first | with_reducible exact results4x HX5.out.drew | with_reducible exact results4x (HX5.out.drew.below G1.out) | with_reducible exact results4x ((HX5.out.drew.below G1.out).below G2.out) | go_keep)
    (first
      | (go_at_call_of 64 (Value.agg #[Value.int .i64 el, Value.int .i64 eh]); refine (refCheckInterval_any el eh _ _ _).mono ?_; rintro e w9 ⟨rfl, hb1⟩; have K : Hid (w9.cell? ⟨gx, 0, none⟩ = some (.int .i64 el) ∧ w9.cell? ⟨gx, 1, none⟩ = some (.int .i64 eh) ∧ w9.cell? ⟨gx, 2, none⟩ = some (.int .i64 fl) ∧ w9.cell? ⟨gx, 3, none⟩ = some (.int .i64 fh)) := results4x (HX5.out.drew.below hb1); have G1 := Lib.hid hb1; clear hb1)
      | (go_at_call_of 64 (Value.agg #[Value.int .i64 fl, Value.int .i64 fh]); refine (refCheckInterval_any fl fh _ _ _).mono ?_; rintro e w10 ⟨rfl, hb2⟩; have G2 := Lib.hid hb2; clear hb2)
      | (go_at_call 47; refine (refFirst2 _ _ (intervalE (rangeI 0 10000000000000) el eh) (intervalE (rangeI 0 1000) fl fh) _ (by go_simp) (by go_simp)).mono ?_; rw [show firstE [intervalE (rangeI 0 10000000000000) el eh, intervalE (rangeI 0 1000) fl fh] = F from HF.out.symm]; rintro e w11 ⟨rfl, rfl⟩))
  clear HXc0 HXc1 HXc2 HXc3
  obtain ⟨w12, hX⟩ : ∃ X, X = w10.alloc (.cells #[.int .i64 (intervalE (rangeI 0 10000000000000) el eh), .int .i64 (intervalE (rangeI 0 1000) fl fh)] 3) := ⟨_, rfl⟩
  rw [← hX]
  have hb : Below w8.heap.size w8 w12 := by rw [hX]; exact (((Below.refl _ w8).drew.trans G1.out).trans (G2.out.mono G1.out.size)).alloc (Nat.le_trans G1.out.size G2.out.size) _
  have HB6 := Lib.hid (HB5.out.trans (Below.mono hb HB5.out.size))
  have HS6 := Lib.hid (HS5.out.below hb)
  have HV6 := Lib.hid (HV5.out.below hb)
  have HX6 := Lib.hid (HX5.out.below hb)
  have HR6 := Lib.hid (HR5.out.below hb)
  have HI6 := Lib.hid (HI5.out.below hb)
  clear HB5 HS5 HV5 HX5 HR5 HI5
  clear hb hX G1 G2 K
  go_upto_region 6 with fail
  obtain ⟨w13, hX⟩ : ∃ X, X = (w12.alloc (.cells #[.int .i64 0, .int .i64 0, .int .i64 0, .int .i64 0, .int .i64 0, .int .i64 0, .int .i64 0, .int .i64 0] 81)).alloc (.cells #[.int .i64 0, .int .i64 0] 49) := ⟨_, rfl⟩
  rw [← hX]
  have hb : Below w12.heap.size w12 w13 := by rw [hX]; exact ((Below.refl _ _).alloc (Nat.le_refl _) _).alloc (by simp) _
  have hz : Blk w13 w12.heap.size 81 #[.int .i64 0, .int .i64 0, .int .i64 0, .int .i64 0, .int .i64 0, .int .i64 0, .int .i64 0, .int .i64 0] := by rw [hX]; exact (Blk.new _ _ _).alloc _
  have hy : Blk w13 (w12.heap.size + 1) 49 #[.int .i64 0, .int .i64 0] := by rw [hX]; exact Blk.at_size _ _ (by simp)
  have hlt_HS := lt_of_block HS6.out
  have hlt_HV := lt_of_block HV6.out
  have hlt_HX := lt_of_block HX6.out
  have hlt_HR := lt_of_block HR6.out
  have hlt_HI := lt_of_block HI6.out
  have hgeB := HB6.out.size
  have HB7 := Lib.hid (HB6.out.trans (Below.mono hb HB6.out.size))
  have HS7 := Lib.hid (HS6.out.below hb)
  have HV7 := Lib.hid (HV6.out.below hb)
  have HX7 := Lib.hid (HX6.out.below hb)
  have HR7 := Lib.hid (HR6.out.below hb)
  have HI7 := Lib.hid (HI6.out.below hb)
  clear HB6 HS6 HV6 HX6 HR6 HI6
  have HZ7 := Lib.hid hz
  have HY7 := Lib.hid hy
  obtain ⟨gz, hgz⟩ : ∃ g, g = w12.heap.size := ⟨_, rfl⟩
  obtain ⟨gy, hgy⟩ : ∃ g, g = w12.heap.size + 1 := ⟨_, rfl⟩
  rw [← hgy] at HY7
  rw [← hgz] at HZ7
  rw [← hgy, ← hgz]
  have HNZ : Hid (gs ≠ gz ∧ gv ≠ gz ∧ gx ≠ gz ∧ gr ≠ gz ∧ gt ≠ gz ∧ gy ≠ gz ∧ w.heap.size ≤ gz) := by show _ ∧ _ ∧ _ ∧ _ ∧ _ ∧ _ ∧ _; omega
  have HNY : Hid (gs ≠ gy ∧ gv ≠ gy ∧ gx ≠ gy ∧ gr ≠ gy ∧ gt ≠ gy ∧ gz ≠ gy ∧ w.heap.size ≤ gy) := by show _ ∧ _ ∧ _ ∧ _ ∧ _ ∧ _ ∧ _; omega
  clear hb hX hz hy hgz hgy hgeB hlt_HS hlt_HV hlt_HX hlt_HR hlt_HI
  by_cases hE0 : E = 0
  · have HE0 := Lib.hid (HE.out.symm.trans hE0)
    obtain ⟨e0, e1, e2, e3, e4, e5, e6, e7⟩ := HR0.out hE0
    subst hE0
    have HSc0 := HS7.out.cell 0; have HSc1 := HS7.out.cell 1; have HSc2 := HS7.out.cell 2; have HSc3 := HS7.out.cell 3; have HSc4 := HS7.out.cell 4; have HSc5 := HS7.out.cell 5; have HSc6 := HS7.out.cell 6; have HSc7 := HS7.out.cell 7
    simp only [List.getElem?_toArray, List.getElem?_cons_zero, List.getElem?_cons_succ] at HSc0 HSc1 HSc2 HSc3 HSc4 HSc5 HSc6 HSc7
    have HVc0 := HV7.out.cell 0; have HVc1 := HV7.out.cell 1; have HVc2 := HV7.out.cell 2; have HVc3 := HV7.out.cell 3; have HVc4 := HV7.out.cell 4; have HVc5 := HV7.out.cell 5; have HVc6 := HV7.out.cell 6; have HVc7 := HV7.out.cell 7
    simp only [List.getElem?_toArray, List.getElem?_cons_zero, List.getElem?_cons_succ] at HVc0 HVc1 HVc2 HVc3 HVc4 HVc5 HVc6 HVc7
    go_wp2_with fail
    refine Calls.mono (refWeighted_any s0 s1 s2 s3 s4 s5 s6 s7 v0 v1 v2 v3 v4 v5 v6 v7 _ HE0.out) ?_
    rintro x w14 ⟨rfl, hb⟩
    rw [← e0, ← e1, ← e2, ← e3, ← e4, ← e5, ← e6, ← e7]
    clear HSc0 HSc1 HSc2 HSc3 HSc4 HSc5 HSc6 HSc7
    clear HVc0 HVc1 HVc2 HVc3 HVc4 HVc5 HVc6 HVc7
    have HB8 := Lib.hid (HB7.out.trans (Below.mono hb HB7.out.size))
    have HS8 := Lib.hid (HS7.out.below hb)
    have HV8 := Lib.hid (HV7.out.below hb)
    have HX8 := Lib.hid (HX7.out.below hb)
    have HR8 := Lib.hid (HR7.out.below hb)
    have HI8 := Lib.hid (HI7.out.below hb)
    have HZ8 := Lib.hid (HZ7.out.below hb)
    have HY8 := Lib.hid (HY7.out.below hb)
    clear HB7 HS7 HV7 HX7 HR7 HI7 HZ7 HY7
    clear hb e0 e1 e2 e3 e4 e5 e6 e7
    have HZc0 := HZ8.out.cell 0; have HZc1 := HZ8.out.cell 1; have HZc2 := HZ8.out.cell 2; have HZc3 := HZ8.out.cell 3; have HZc4 := HZ8.out.cell 4; have HZc5 := HZ8.out.cell 5; have HZc6 := HZ8.out.cell 6; have HZc7 := HZ8.out.cell 7
    simp only [List.getElem?_toArray, List.getElem?_cons_zero, List.getElem?_cons_succ] at HZc0 HZc1 HZc2 HZc3 HZc4 HZc5 HZc6 HZc7
    have HZf0 := HZ8.out.frozen 0; have HZf1 := HZ8.out.frozen 1; have HZf2 := HZ8.out.frozen 2; have HZf3 := HZ8.out.frozen 3; have HZf4 := HZ8.out.frozen 4; have HZf5 := HZ8.out.frozen 5; have HZf6 := HZ8.out.frozen 6; have HZf7 := HZ8.out.frozen 7
    go_upto_region 8 with fail
    obtain ⟨w15, hX⟩ : ∃ X, X = ((((((((w14.setCell ⟨gz, 0, none⟩ (.int .i64 r0)).setCell ⟨gz, 1, none⟩ (.int .i64 r1)).setCell ⟨gz, 2, none⟩ (.int .i64 r2)).setCell ⟨gz, 3, none⟩ (.int .i64 r3)).setCell ⟨gz, 4, none⟩ (.int .i64 r4)).setCell ⟨gz, 5, none⟩ (.int .i64 r5)).setCell ⟨gz, 6, none⟩ (.int .i64 r6)).setCell ⟨gz, 7, none⟩ (.int .i64 r7)) := ⟨_, rfl⟩
    rw [← hX]
    clear HZc0 HZc1 HZc2 HZc3 HZc4 HZc5 HZc6 HZc7
    clear HZf0 HZf1 HZf2 HZf3 HZf4 HZf5 HZf6 HZf7
    have HB9 : Hid (Below w.heap.size w w15) := by show Below _ _ _; rw [hX]; exact ((((((((HB8.out.setCell (p := ⟨gz, 0, none⟩) HNZ.out.2.2.2.2.2.2 _).setCell (p := ⟨gz, 1, none⟩) HNZ.out.2.2.2.2.2.2 _).setCell (p := ⟨gz, 2, none⟩) HNZ.out.2.2.2.2.2.2 _).setCell (p := ⟨gz, 3, none⟩) HNZ.out.2.2.2.2.2.2 _).setCell (p := ⟨gz, 4, none⟩) HNZ.out.2.2.2.2.2.2 _).setCell (p := ⟨gz, 5, none⟩) HNZ.out.2.2.2.2.2.2 _).setCell (p := ⟨gz, 6, none⟩) HNZ.out.2.2.2.2.2.2 _).setCell (p := ⟨gz, 7, none⟩) HNZ.out.2.2.2.2.2.2 _)
    have HS9 := Lib.hid ((((((((HS8.out.far (p := ⟨gz, 0, none⟩) HNZ.out.1 (Value.int .i64 r0)).far (p := ⟨gz, 1, none⟩) HNZ.out.1 (Value.int .i64 r1)).far (p := ⟨gz, 2, none⟩) HNZ.out.1 (Value.int .i64 r2)).far (p := ⟨gz, 3, none⟩) HNZ.out.1 (Value.int .i64 r3)).far (p := ⟨gz, 4, none⟩) HNZ.out.1 (Value.int .i64 r4)).far (p := ⟨gz, 5, none⟩) HNZ.out.1 (Value.int .i64 r5)).far (p := ⟨gz, 6, none⟩) HNZ.out.1 (Value.int .i64 r6)).far (p := ⟨gz, 7, none⟩) HNZ.out.1 (Value.int .i64 r7))
    rw [← hX] at HS9
    have HV9 := Lib.hid ((((((((HV8.out.far (p := ⟨gz, 0, none⟩) HNZ.out.2.1 (Value.int .i64 r0)).far (p := ⟨gz, 1, none⟩) HNZ.out.2.1 (Value.int .i64 r1)).far (p := ⟨gz, 2, none⟩) HNZ.out.2.1 (Value.int .i64 r2)).far (p := ⟨gz, 3, none⟩) HNZ.out.2.1 (Value.int .i64 r3)).far (p := ⟨gz, 4, none⟩) HNZ.out.2.1 (Value.int .i64 r4)).far (p := ⟨gz, 5, none⟩) HNZ.out.2.1 (Value.int .i64 r5)).far (p := ⟨gz, 6, none⟩) HNZ.out.2.1 (Value.int .i64 r6)).far (p := ⟨gz, 7, none⟩) HNZ.out.2.1 (Value.int .i64 r7))
    rw [← hX] at HV9
    have HX9 := Lib.hid ((((((((HX8.out.far (p := ⟨gz, 0, none⟩) HNZ.out.2.2.1 (Value.int .i64 r0)).far (p := ⟨gz, 1, none⟩) HNZ.out.2.2.1 (Value.int .i64 r1)).far (p := ⟨gz, 2, none⟩) HNZ.out.2.2.1 (Value.int .i64 r2)).far (p := ⟨gz, 3, none⟩) HNZ.out.2.2.1 (Value.int .i64 r3)).far (p := ⟨gz, 4, none⟩) HNZ.out.2.2.1 (Value.int .i64 r4)).far (p := ⟨gz, 5, none⟩) HNZ.out.2.2.1 (Value.int .i64 r5)).far (p := ⟨gz, 6, none⟩) HNZ.out.2.2.1 (Value.int .i64 r6)).far (p := ⟨gz, 7, none⟩) HNZ.out.2.2.1 (Value.int .i64 r7))
    rw [← hX] at HX9
    have HR9 := Lib.hid ((((((((HR8.out.far (p := ⟨gz, 0, none⟩) HNZ.out.2.2.2.1 (Value.int .i64 r0)).far (p := ⟨gz, 1, none⟩) HNZ.out.2.2.2.1 (Value.int .i64 r1)).far (p := ⟨gz, 2, none⟩) HNZ.out.2.2.2.1 (Value.int .i64 r2)).far (p := ⟨gz, 3, none⟩) HNZ.out.2.2.2.1 (Value.int .i64 r3)).far (p := ⟨gz, 4, none⟩) HNZ.out.2.2.2.1 (Value.int .i64 r4)).far (p := ⟨gz, 5, none⟩) HNZ.out.2.2.2.1 (Value.int .i64 r5)).far (p := ⟨gz, 6, none⟩) HNZ.out.2.2.2.1 (Value.int .i64 r6)).far (p := ⟨gz, 7, none⟩) HNZ.out.2.2.2.1 (Value.int .i64 r7))
    rw [← hX] at HR9
    have HI9 := Lib.hid ((((((((HI8.out.far (p := ⟨gz, 0, none⟩) HNZ.out.2.2.2.2.1 (Value.int .i64 r0)).far (p := ⟨gz, 1, none⟩) HNZ.out.2.2.2.2.1 (Value.int .i64 r1)).far (p := ⟨gz, 2, none⟩) HNZ.out.2.2.2.2.1 (Value.int .i64 r2)).far (p := ⟨gz, 3, none⟩) HNZ.out.2.2.2.2.1 (Value.int .i64 r3)).far (p := ⟨gz, 4, none⟩) HNZ.out.2.2.2.2.1 (Value.int .i64 r4)).far (p := ⟨gz, 5, none⟩) HNZ.out.2.2.2.2.1 (Value.int .i64 r5)).far (p := ⟨gz, 6, none⟩) HNZ.out.2.2.2.2.1 (Value.int .i64 r6)).far (p := ⟨gz, 7, none⟩) HNZ.out.2.2.2.2.1 (Value.int .i64 r7))
    rw [← hX] at HI9
    have HZ9 : Hid (Blk w15 gz 81 #[.int .i64 r0, .int .i64 r1, .int .i64 r2, .int .i64 r3, .int .i64 r4, .int .i64 r5, .int .i64 r6, .int .i64 r7]) := by show Blk _ _ _ _; rw [hX]; exact ((((((((HZ8.out.set_ 0 _).set_ 1 _).set_ 2 _).set_ 3 _).set_ 4 _).set_ 5 _).set_ 6 _).set_ 7 _)
    have HY9 := Lib.hid ((((((((HY8.out.far (p := ⟨gz, 0, none⟩) HNZ.out.2.2.2.2.2.1 (Value.int .i64 r0)).far (p := ⟨gz, 1, none⟩) HNZ.out.2.2.2.2.2.1 (Value.int .i64 r1)).far (p := ⟨gz, 2, none⟩) HNZ.out.2.2.2.2.2.1 (Value.int .i64 r2)).far (p := ⟨gz, 3, none⟩) HNZ.out.2.2.2.2.2.1 (Value.int .i64 r3)).far (p := ⟨gz, 4, none⟩) HNZ.out.2.2.2.2.2.1 (Value.int .i64 r4)).far (p := ⟨gz, 5, none⟩) HNZ.out.2.2.2.2.2.1 (Value.int .i64 r5)).far (p := ⟨gz, 6, none⟩) HNZ.out.2.2.2.2.2.1 (Value.int .i64 r6)).far (p := ⟨gz, 7, none⟩) HNZ.out.2.2.2.2.2.1 (Value.int .i64 r7))
    rw [← hX] at HY9
    clear hX HB8 HS8 HV8 HX8 HR8 HI8 HZ8 HY8
    by_cases hF0 : F = 0
    · have HF0 := Lib.hid (HF.out.symm.trans hF0)
      subst hF0
      have HXc0 := HX9.out.cell 0; have HXc1 := HX9.out.cell 1; have HXc2 := HX9.out.cell 2; have HXc3 := HX9.out.cell 3
      simp only [List.getElem?_toArray, List.getElem?_cons_zero, List.getElem?_cons_succ] at HXc0 HXc1 HXc2 HXc3
      go_wp2_with fail
      refine Calls.mono (refThrough_any el eh fl fh _ HF0.out) ?_
      rintro x w20 ⟨rfl, hb⟩
      rw [← HLO.out, ← HHI.out]
      clear HXc0 HXc1 HXc2 HXc3
      have HB10 := Lib.hid (HB9.out.trans (Below.mono hb HB9.out.size))
      have HS10 := Lib.hid (HS9.out.below hb)
      have HV10 := Lib.hid (HV9.out.below hb)
      have HX10 := Lib.hid (HX9.out.below hb)
      have HR10 := Lib.hid (HR9.out.below hb)
      have HI10 := Lib.hid (HI9.out.below hb)
      have HZ10 := Lib.hid (HZ9.out.below hb)
      have HY10 := Lib.hid (HY9.out.below hb)
      clear HB9 HS9 HV9 HX9 HR9 HI9 HZ9 HY9
      clear hb
      have HYc0 := HY10.out.cell 0; have HYc1 := HY10.out.cell 1
      simp only [List.getElem?_toArray, List.getElem?_cons_zero, List.getElem?_cons_succ] at HYc0 HYc1
      have HYf0 := HY10.out.frozen 0; have HYf1 := HY10.out.frozen 1
      go_upto_region 10 with fail
      obtain ⟨w21, hX⟩ : ∃ X, X = ((w20.setCell ⟨gy, 0, none⟩ (.int .i64 lo)).setCell ⟨gy, 1, none⟩ (.int .i64 hi)) := ⟨_, rfl⟩
      rw [← hX]
      clear HYc0 HYc1
      clear HYf0 HYf1
      have HB11 : Hid (Below w.heap.size w w21) := by show Below _ _ _; rw [hX]; exact ((HB10.out.setCell (p := ⟨gy, 0, none⟩) HNY.out.2.2.2.2.2.2 _).setCell (p := ⟨gy, 1, none⟩) HNY.out.2.2.2.2.2.2 _)
      have HS11 := Lib.hid ((HS10.out.far (p := ⟨gy, 0, none⟩) HNY.out.1 (Value.int .i64 lo)).far (p := ⟨gy, 1, none⟩) HNY.out.1 (Value.int .i64 hi))
      rw [← hX] at HS11
      have HV11 := Lib.hid ((HV10.out.far (p := ⟨gy, 0, none⟩) HNY.out.2.1 (Value.int .i64 lo)).far (p := ⟨gy, 1, none⟩) HNY.out.2.1 (Value.int .i64 hi))
      rw [← hX] at HV11
      have HX11 := Lib.hid ((HX10.out.far (p := ⟨gy, 0, none⟩) HNY.out.2.2.1 (Value.int .i64 lo)).far (p := ⟨gy, 1, none⟩) HNY.out.2.2.1 (Value.int .i64 hi))
      rw [← hX] at HX11
      have HR11 := Lib.hid ((HR10.out.far (p := ⟨gy, 0, none⟩) HNY.out.2.2.2.1 (Value.int .i64 lo)).far (p := ⟨gy, 1, none⟩) HNY.out.2.2.2.1 (Value.int .i64 hi))
      rw [← hX] at HR11
      have HI11 := Lib.hid ((HI10.out.far (p := ⟨gy, 0, none⟩) HNY.out.2.2.2.2.1 (Value.int .i64 lo)).far (p := ⟨gy, 1, none⟩) HNY.out.2.2.2.2.1 (Value.int .i64 hi))
      rw [← hX] at HI11
      have HZ11 := Lib.hid ((HZ10.out.far (p := ⟨gy, 0, none⟩) HNY.out.2.2.2.2.2.1 (Value.int .i64 lo)).far (p := ⟨gy, 1, none⟩) HNY.out.2.2.2.2.2.1 (Value.int .i64 hi))
      rw [← hX] at HZ11
      have HY11 : Hid (Blk w21 gy 49 #[.int .i64 lo, .int .i64 hi]) := by show Blk _ _ _ _; rw [hX]; exact ((HY10.out.set_ 0 _).set_ 1 _)
      clear hX HB10 HS10 HV10 HX10 HR10 HI10 HZ10 HY10
      have HRc0 := HR11.out.cell 0; have HRc1 := HR11.out.cell 1; have HRc2 := HR11.out.cell 2; have HRc3 := HR11.out.cell 3; have HRc4 := HR11.out.cell 4; have HRc5 := HR11.out.cell 5; have HRc6 := HR11.out.cell 6; have HRc7 := HR11.out.cell 7
      simp only [List.getElem?_toArray, List.getElem?_cons_zero, List.getElem?_cons_succ] at HRc0 HRc1 HRc2 HRc3 HRc4 HRc5 HRc6 HRc7
      have HZc0 := HZ11.out.cell 0; have HZc1 := HZ11.out.cell 1; have HZc2 := HZ11.out.cell 2; have HZc3 := HZ11.out.cell 3; have HZc4 := HZ11.out.cell 4; have HZc5 := HZ11.out.cell 5; have HZc6 := HZ11.out.cell 6; have HZc7 := HZ11.out.cell 7
      simp only [List.getElem?_toArray, List.getElem?_cons_zero, List.getElem?_cons_succ] at HZc0 HZc1 HZc2 HZc3 HZc4 HZc5 HZc6 HZc7
      have HIc0 := HI11.out.cell 0; have HIc1 := HI11.out.cell 1
      simp only [List.getElem?_toArray, List.getElem?_cons_zero, List.getElem?_cons_succ] at HIc0 HIc1
      have HYc0 := HY11.out.cell 0; have HYc1 := HY11.out.cell 1
      simp only [List.getElem?_toArray, List.getElem?_cons_zero, List.getElem?_cons_succ] at HYc0 HYc1
      go_wp2_with fail
      refine Calls.mono (awake_any _ (HS_.out.keep HB11.out) (HT_.out.keep HB11.out)) ?_
      rintro x w99 ⟨rfl, hb⟩
      have HB99 := Lib.hid (HB11.out.trans (Below.mono hb HB11.out.size))
      clear hb
      go_wp2
      go_ret
      exact ⟨rfl, HB99.out⟩
    · have q1 : lo = 0 := by rw [HLO.out]; unfold throughLow; rw [if_neg (by rw [← HF.out]; exact hF0)]
      have q2 : hi = 0 := by rw [HHI.out]; unfold throughHigh; rw [if_neg (by rw [← HF.out]; exact hF0)]
      have p2 : (F == 0) = false := by simp [hF0]
      subst q1 q2
      clear hF0
      have HRc0 := HR9.out.cell 0; have HRc1 := HR9.out.cell 1; have HRc2 := HR9.out.cell 2; have HRc3 := HR9.out.cell 3; have HRc4 := HR9.out.cell 4; have HRc5 := HR9.out.cell 5; have HRc6 := HR9.out.cell 6; have HRc7 := HR9.out.cell 7
      simp only [List.getElem?_toArray, List.getElem?_cons_zero, List.getElem?_cons_succ] at HRc0 HRc1 HRc2 HRc3 HRc4 HRc5 HRc6 HRc7
      have HZc0 := HZ9.out.cell 0; have HZc1 := HZ9.out.cell 1; have HZc2 := HZ9.out.cell 2; have HZc3 := HZ9.out.cell 3; have HZc4 := HZ9.out.cell 4; have HZc5 := HZ9.out.cell 5; have HZc6 := HZ9.out.cell 6; have HZc7 := HZ9.out.cell 7
      simp only [List.getElem?_toArray, List.getElem?_cons_zero, List.getElem?_cons_succ] at HZc0 HZc1 HZc2 HZc3 HZc4 HZc5 HZc6 HZc7
      have HIc0 := HI9.out.cell 0; have HIc1 := HI9.out.cell 1
      simp only [List.getElem?_toArray, List.getElem?_cons_zero, List.getElem?_cons_succ] at HIc0 HIc1
      have HYc0 := HY9.out.cell 0; have HYc1 := HY9.out.cell 1
      simp only [List.getElem?_toArray, List.getElem?_cons_zero, List.getElem?_cons_succ] at HYc0 HYc1
      go_wp2_with fail
      refine Calls.mono (awake_any _ (HS_.out.keep HB9.out) (HT_.out.keep HB9.out)) ?_
      rintro x w99 ⟨rfl, hb⟩
      have HB99 := Lib.hid (HB9.out.trans (Below.mono hb HB9.out.size))
      clear hb
      go_wp2
      go_ret
      exact ⟨rfl, HB99.out⟩
  · obtain ⟨e0, e1, e2, e3, e4, e5, e6, e7⟩ := HR1.out hE0
    have p1 : (E == 0) = false := by simp [hE0]
    subst e0 e1 e2 e3 e4 e5 e6 e7
    clear hE0
    go_upto_region 8 with fail
    by_cases hF0 : F = 0
    · have HF0 := Lib.hid (HF.out.symm.trans hF0)
      subst hF0
      have HXc0 := HX7.out.cell 0; have HXc1 := HX7.out.cell 1; have HXc2 := HX7.out.cell 2; have HXc3 := HX7.out.cell 3
      simp only [List.getElem?_toArray, List.getElem?_cons_zero, List.getElem?_cons_succ] at HXc0 HXc1 HXc2 HXc3
      go_wp2_with fail
      refine Calls.mono (refThrough_any el eh fl fh _ HF0.out) ?_
      rintro x w20 ⟨rfl, hb⟩
      rw [← HLO.out, ← HHI.out]
      clear HXc0 HXc1 HXc2 HXc3
      have HB8 := Lib.hid (HB7.out.trans (Below.mono hb HB7.out.size))
      have HS8 := Lib.hid (HS7.out.below hb)
      have HV8 := Lib.hid (HV7.out.below hb)
      have HX8 := Lib.hid (HX7.out.below hb)
      have HR8 := Lib.hid (HR7.out.below hb)
      have HI8 := Lib.hid (HI7.out.below hb)
      have HZ8 := Lib.hid (HZ7.out.below hb)
      have HY8 := Lib.hid (HY7.out.below hb)
      clear HB7 HS7 HV7 HX7 HR7 HI7 HZ7 HY7
      clear hb
      have HYc0 := HY8.out.cell 0; have HYc1 := HY8.out.cell 1
      simp only [List.getElem?_toArray, List.getElem?_cons_zero, List.getElem?_cons_succ] at HYc0 HYc1
      have HYf0 := HY8.out.frozen 0; have HYf1 := HY8.out.frozen 1
      go_upto_region 10 with fail
      obtain ⟨w21, hX⟩ : ∃ X, X = ((w20.setCell ⟨gy, 0, none⟩ (.int .i64 lo)).setCell ⟨gy, 1, none⟩ (.int .i64 hi)) := ⟨_, rfl⟩
      rw [← hX]
      clear HYc0 HYc1
      clear HYf0 HYf1
      have HB9 : Hid (Below w.heap.size w w21) := by show Below _ _ _; rw [hX]; exact ((HB8.out.setCell (p := ⟨gy, 0, none⟩) HNY.out.2.2.2.2.2.2 _).setCell (p := ⟨gy, 1, none⟩) HNY.out.2.2.2.2.2.2 _)
      have HS9 := Lib.hid ((HS8.out.far (p := ⟨gy, 0, none⟩) HNY.out.1 (Value.int .i64 lo)).far (p := ⟨gy, 1, none⟩) HNY.out.1 (Value.int .i64 hi))
      rw [← hX] at HS9
      have HV9 := Lib.hid ((HV8.out.far (p := ⟨gy, 0, none⟩) HNY.out.2.1 (Value.int .i64 lo)).far (p := ⟨gy, 1, none⟩) HNY.out.2.1 (Value.int .i64 hi))
      rw [← hX] at HV9
      have HX9 := Lib.hid ((HX8.out.far (p := ⟨gy, 0, none⟩) HNY.out.2.2.1 (Value.int .i64 lo)).far (p := ⟨gy, 1, none⟩) HNY.out.2.2.1 (Value.int .i64 hi))
      rw [← hX] at HX9
      have HR9 := Lib.hid ((HR8.out.far (p := ⟨gy, 0, none⟩) HNY.out.2.2.2.1 (Value.int .i64 lo)).far (p := ⟨gy, 1, none⟩) HNY.out.2.2.2.1 (Value.int .i64 hi))
      rw [← hX] at HR9
      have HI9 := Lib.hid ((HI8.out.far (p := ⟨gy, 0, none⟩) HNY.out.2.2.2.2.1 (Value.int .i64 lo)).far (p := ⟨gy, 1, none⟩) HNY.out.2.2.2.2.1 (Value.int .i64 hi))
      rw [← hX] at HI9
      have HZ9 := Lib.hid ((HZ8.out.far (p := ⟨gy, 0, none⟩) HNY.out.2.2.2.2.2.1 (Value.int .i64 lo)).far (p := ⟨gy, 1, none⟩) HNY.out.2.2.2.2.2.1 (Value.int .i64 hi))
      rw [← hX] at HZ9
      have HY9 : Hid (Blk w21 gy 49 #[.int .i64 lo, .int .i64 hi]) := by show Blk _ _ _ _; rw [hX]; exact ((HY8.out.set_ 0 _).set_ 1 _)
      clear hX HB8 HS8 HV8 HX8 HR8 HI8 HZ8 HY8
      have HRc0 := HR9.out.cell 0; have HRc1 := HR9.out.cell 1; have HRc2 := HR9.out.cell 2; have HRc3 := HR9.out.cell 3; have HRc4 := HR9.out.cell 4; have HRc5 := HR9.out.cell 5; have HRc6 := HR9.out.cell 6; have HRc7 := HR9.out.cell 7
      simp only [List.getElem?_toArray, List.getElem?_cons_zero, List.getElem?_cons_succ] at HRc0 HRc1 HRc2 HRc3 HRc4 HRc5 HRc6 HRc7
      have HZc0 := HZ9.out.cell 0; have HZc1 := HZ9.out.cell 1; have HZc2 := HZ9.out.cell 2; have HZc3 := HZ9.out.cell 3; have HZc4 := HZ9.out.cell 4; have HZc5 := HZ9.out.cell 5; have HZc6 := HZ9.out.cell 6; have HZc7 := HZ9.out.cell 7
      simp only [List.getElem?_toArray, List.getElem?_cons_zero, List.getElem?_cons_succ] at HZc0 HZc1 HZc2 HZc3 HZc4 HZc5 HZc6 HZc7
      have HIc0 := HI9.out.cell 0; have HIc1 := HI9.out.cell 1
      simp only [List.getElem?_toArray, List.getElem?_cons_zero, List.getElem?_cons_succ] at HIc0 HIc1
      have HYc0 := HY9.out.cell 0; have HYc1 := HY9.out.cell 1
      simp only [List.getElem?_toArray, List.getElem?_cons_zero, List.getElem?_cons_succ] at HYc0 HYc1
      go_wp2_with fail
      refine Calls.mono (awake_any _ (HS_.out.keep HB9.out) (HT_.out.keep HB9.out)) ?_
      rintro x w99 ⟨rfl, hb⟩
      have HB99 := Lib.hid (HB9.out.trans (Below.mono hb HB9.out.size))
      clear hb
      go_wp2
      go_ret
      exact ⟨rfl, HB99.out⟩
    · have q1 : lo = 0 := by rw [HLO.out]; unfold throughLow; rw [if_neg (by rw [← HF.out]; exact hF0)]
      have q2 : hi = 0 := by rw [HHI.out]; unfold throughHigh; rw [if_neg (by rw [← HF.out]; exact hF0)]
      have p2 : (F == 0) = false := by simp [hF0]
      subst q1 q2
      clear hF0
      have HRc0 := HR7.out.cell 0; have HRc1 := HR7.out.cell 1; have HRc2 := HR7.out.cell 2; have HRc3 := HR7.out.cell 3; have HRc4 := HR7.out.cell 4; have HRc5 := HR7.out.cell 5; have HRc6 := HR7.out.cell 6; have HRc7 := HR7.out.cell 7
      simp only [List.getElem?_toArray, List.getElem?_cons_zero, List.getElem?_cons_succ] at HRc0 HRc1 HRc2 HRc3 HRc4 HRc5 HRc6 HRc7
      have HZc0 := HZ7.out.cell 0; have HZc1 := HZ7.out.cell 1; have HZc2 := HZ7.out.cell 2; have HZc3 := HZ7.out.cell 3; have HZc4 := HZ7.out.cell 4; have HZc5 := HZ7.out.cell 5; have HZc6 := HZ7.out.cell 6; have HZc7 := HZ7.out.cell 7
      simp only [List.getElem?_toArray, List.getElem?_cons_zero, List.getElem?_cons_succ] at HZc0 HZc1 HZc2 HZc3 HZc4 HZc5 HZc6 HZc7
      have HIc0 := HI7.out.cell 0; have HIc1 := HI7.out.cell 1
      simp only [List.getElem?_toArray, List.getElem?_cons_zero, List.getElem?_cons_succ] at HIc0 HIc1
      have HYc0 := HY7.out.cell 0; have HYc1 := HY7.out.cell 1
      simp only [List.getElem?_toArray, List.getElem?_cons_zero, List.getElem?_cons_succ] at HYc0 HYc1
      go_wp2_with fail
      refine Calls.mono (awake_any _ (HS_.out.keep HB7.out) (HT_.out.keep HB7.out)) ?_
      rintro x w99 ⟨rfl, hb⟩
      have HB99 := Lib.hid (HB7.out.trans (Below.mono hb HB7.out.size))
      clear hb
      go_wp2
      go_ret
      exact ⟨rfl, HB99.out⟩
end Go.Proofs.YtoipafnlcchmbaaGreatDoor
