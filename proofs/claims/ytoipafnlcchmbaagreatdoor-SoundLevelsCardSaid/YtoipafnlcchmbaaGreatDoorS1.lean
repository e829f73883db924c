/- SoundLevels, walked. -/
import Derived.Test.YtoipafnlcchmbaaGreatDoorQPx
import Derived.Test.YtoipafnlcchmbaaGreatDoorQC
namespace Go.Proofs.YtoipafnlcchmbaaGreatDoor
open Go.RowKit

set_option maxHeartbeats 4000000 in
set_option maxRecDepth 100000 in
theorem levels_11 (e : Int) (m : Nat) (he : 0 ≤ e ∧ e ≤ 10000000000000) (hm : m ≤ 120) (w : World) (hs : Steps w) (ht : Tab w) :
    Calls Tryz.prog 5 #[.int .i64 e, .int .i64 (m : Int)] w fun x w' => x = .returned (.bool true) ∧ Below w.heap.size w w' := by
  have e1 : checkEnergyE e = 0 := by unfold checkEnergyE; exact withinE_of he.1 he.2
  have e2 : levelR e = level e := by unfold levelR; rw [if_pos he]
  have l1 : withinE (m : Int) 0 120 = 0 := withinE_of (by omega) (by omega)
  have l2 : withinE (m : Int) (-1) 120 = 0 := withinE_of (by omega) (by omega)
  have l3 : thresholdR (m : Int) = thr m := by unfold thresholdR; rw [if_pos (by omega), Int.toNat_natCast]
  have l4 : rangeR (m : Int) = .agg #[.int .i64 (rangeLow m), .int .i64 (rangeHigh m)] := by unfold rangeR; rw [if_pos (by omega)]
  have E1 := Lib.hid e1
  have E2 := Lib.hid e2
  have L1 := Lib.hid l1
  have L2 := Lib.hid l2
  have L3 := Lib.hid l3
  have L4 := Lib.hid l4
  obtain ⟨A, hA⟩ : ∃ A, A = level e := ⟨_, rfl⟩
  rw [← hA] at E2
  have HA := Lib.hid hA
  clear hA
  have HS0 := Lib.hid hs
  have HT0 := Lib.hid ht
  clear e1 e2 l1 l2 l3 l4 hs ht he
  go_enter Tryz.func5, Tryz.ntmps5
  go_wp2_with fail
  refine Calls.mono (Level_any _ _ HS0.out) ?_
  rintro x w1 ⟨rfl, hb⟩
  rw [E1.out, E2.out]
  have HB1 := Lib.hid hb
  have HS1 := Lib.hid (HS0.out.keep hb)
  have HT1 := Lib.hid (HT0.out.keep hb)
  clear hb
  go_wp2_with fail
  refine Calls.mono (Threshold_any _ _ HS1.out) ?_
  rintro x w' ⟨rfl, rfl⟩
  rw [L1.out, L3.out]
  go_wp2_with fail
  refine Calls.mono (Range_any _ _ HS1.out) ?_
  rintro x w2 ⟨rfl, hb⟩
  rw [L2.out, L4.out]
  obtain ⟨lo, hlo⟩ : ∃ lo, lo = (rangeLow (m : Int)) := ⟨_, rfl⟩
  obtain ⟨hi, hhi⟩ : ∃ hi, hi = (rangeHigh (m : Int)) := ⟨_, rfl⟩
  rw [← hlo, ← hhi]
  have HLO := Lib.hid hlo
  have HHI := Lib.hid hhi
  clear hlo hhi
  have HB2 := Lib.hid (HB1.out.trans (Below.mono hb HB1.out.size))
  have HS2 := Lib.hid (HS1.out.keep hb)
  have HT2 := Lib.hid (HT1.out.keep hb)
  clear hb HB1 HS1 HT1
  go_upto_region 4 with fail
  obtain ⟨w3, hW⟩ : ∃ X, X = w2.alloc (.cells #[.int .i64 lo, .int .i64 hi] 49) := ⟨_, rfl⟩
  rw [← hW]
  obtain ⟨hk, hb⟩ := box_facts _ _ w3 hW
  have HB3 := Lib.hid (HB2.out.trans (Below.mono hb HB2.out.size))
  have HS3 := Lib.hid (HS2.out.keep hb)
  have HT3 := Lib.hid (HT2.out.keep hb)
  have HK3 := Lib.hid hk
  obtain ⟨g1, hg1⟩ : ∃ g, g = w2.heap.size := ⟨_, rfl⟩
  rw [← hg1] at HK3 ⊢
  clear hb hk hW HB2 HS2 HT2 hg1
  go_wp2_with fail
  refine Calls.mono (refCheckEnergy_any _ _) ?_
  rintro x w' ⟨rfl, rfl⟩
  rw [E1.out]
  go_wp2_with fail
  refine Calls.mono (refCheckLevel_any _ _) ?_
  rintro x w' ⟨rfl, rfl⟩
  rw [L1.out]
  go_wp2_with fail
  refine Calls.mono (refCheckRange_any _ _ _ _) ?_
  rintro x w' ⟨rfl, rfl⟩
  rw [L2.out]
  go_upto_region 6 with fail
  obtain ⟨w4, hW⟩ : ∃ X, X = w3.alloc (.cells #[.int .i64 0, .int .i64 0] 49) := ⟨_, rfl⟩
  rw [← hW]
  obtain ⟨hk, hb⟩ := box_facts _ _ w4 hW
  have HB4 := Lib.hid (HB3.out.trans (Below.mono hb HB3.out.size))
  have HS4 := Lib.hid (HS3.out.keep hb)
  have HT4 := Lib.hid (HT3.out.keep hb)
  have HK4 := Lib.hid (HK3.out.below hb)
  have HJ4 := Lib.hid hk
  have hwg : w.heap.size ≤ w3.heap.size := HB3.out.size
  obtain ⟨g2, hg2⟩ : ∃ g, g = w3.heap.size := ⟨_, rfl⟩
  rw [← hg2] at HJ4 hwg ⊢
  have HNE : Hid (g1 ≠ g2) := by have := lt_of_block HK3.out; show _ ≠ _; omega
  clear hb hk hW HB3 HS3 HT3 HK3 hg2
  go_wp2_with fail
  refine Calls.mono (refLevel_any _ _) ?_
  rintro x w5 ⟨rfl, hb⟩
  rw [← HA.out]
  have HB5 := Lib.hid (HB4.out.trans (Below.mono hb HB4.out.size))
  have HS5 := Lib.hid (HS4.out.keep hb)
  have HT5 := Lib.hid (HT4.out.keep hb)
  have HK5 := Lib.hid (HK4.out.below hb)
  have HJ5 := Lib.hid (HJ4.out.below hb)
  clear hb HB4 HS4 HT4 HK4 HJ4
  go_wp2_with fail
  refine Calls.mono (refThreshold_any m _ (by omega)) ?_
  rintro x w6 ⟨rfl, hb⟩
  have HB6 := Lib.hid (HB5.out.trans (Below.mono hb HB5.out.size))
  have HS6 := Lib.hid (HS5.out.keep hb)
  have HT6 := Lib.hid (HT5.out.keep hb)
  have HK6 := Lib.hid (HK5.out.below hb)
  have HJ6 := Lib.hid (HJ5.out.below hb)
  clear hb HB5 HS5 HT5 HK5 HJ5
  go_wp2_with fail
  refine Calls.mono (refRange_any _ _ (by omega) (by omega)) ?_
  rintro x w7 ⟨rfl, hb⟩
  rw [← HLO.out, ← HHI.out]
  have HB7 := Lib.hid (HB6.out.trans (Below.mono hb HB6.out.size))
  have HS7 := Lib.hid (HS6.out.keep hb)
  have HT7 := Lib.hid (HT6.out.keep hb)
  have HK7 := Lib.hid (HK6.out.below hb)
  have HJ7 := Lib.hid (HJ6.out.below hb)
  clear hb HB6 HS6 HT6 HK6 HJ6
  have y0 := HJ7.out.cell 0; have z0 := HJ7.out.frozen 0; have y1 := HJ7.out.cell 1; have z1 := HJ7.out.frozen 1
  simp only [List.getElem?_toArray, List.getElem?_cons_zero, List.getElem?_cons_succ] at y0 y1
  go_upto_region 12 with fail
  obtain ⟨w8, hW⟩ : ∃ X, X = (w7.setCell ⟨g2, 0, none⟩ (.int .i64 lo)).setCell ⟨g2, 1, none⟩ (.int .i64 hi) := ⟨_, rfl⟩
  rw [← hW]
  have HB8 : Hid (Below w.heap.size w w8) := by show Below _ _ _; rw [hW]; exact (HB7.out.setCell (p := ⟨g2, 0, none⟩) hwg _).setCell (p := ⟨g2, 1, none⟩) hwg _
  have HK8 : Hid (Blk w8 g1 49 #[.int .i64 lo, .int .i64 hi]) := by show Blk _ _ _ _; rw [hW]; exact (HK7.out.far (p := ⟨g2, 0, none⟩) HNE.out _).far (p := ⟨g2, 1, none⟩) HNE.out _
  have HJ8 : Hid (Blk w8 g2 49 #[.int .i64 lo, .int .i64 hi]) := by show Blk _ _ _ _; rw [hW]; exact (HJ7.out.set_ 0 _).set_ 1 _
  have HS8 := Lib.hid (HS0.out.keep HB8.out)
  have HT8 := Lib.hid (HT0.out.keep HB8.out)
  clear hW HB7 HS7 HT7 HK7 HJ7 y0 y1 z0 z1
  have y0 := HJ8.out.cell 0; have y1 := HJ8.out.cell 1
  simp only [List.getElem?_toArray, List.getElem?_cons_zero, List.getElem?_cons_succ] at y0 y1
  have x0 := HK8.out.cell 0; have x1 := HK8.out.cell 1
  simp only [List.getElem?_toArray, List.getElem?_cons_zero, List.getElem?_cons_succ] at x0 x1
  go_wp2_with fail
  refine Calls.mono (checkEnergy_any _ _) ?_
  rintro x w' ⟨rfl, rfl⟩
  rw [E1.out]
  go_wp2_with fail
  refine Calls.mono (awake_any _ HS8.out HT8.out) ?_
  rintro x w9 ⟨rfl, hb⟩
  have HB9 := Lib.hid (HB8.out.trans (Below.mono hb HB8.out.size))
  clear hb
  go_wp2
  go_ret
  exact ⟨rfl, HB9.out⟩

set_option maxHeartbeats 4000000 in
set_option maxRecDepth 100000 in
theorem levels_12 (e : Int) (he : 0 ≤ e ∧ e ≤ 10000000000000) (w : World) (hs : Steps w) (ht : Tab w) :
    Calls Tryz.prog 5 #[.int .i64 e, .int .i64 (-1)] w fun x w' => x = .returned (.bool true) ∧ Below w.heap.size w w' := by
  have e1 : checkEnergyE e = 0 := by unfold checkEnergyE; exact withinE_of he.1 he.2
  have e2 : levelR e = level e := by unfold levelR; rw [if_pos he]
  have l1 : withinE (-1) 0 120 = 3 := withinE_bad (by omega)
  have l2 : withinE (-1) (-1) 120 = 0 := withinE_of (by omega) (by omega)
  have l3 : thresholdR (-1) = 0 := by unfold thresholdR; rw [if_neg (by omega)]
  have l4 : rangeR (-1) = .agg #[.int .i64 (rangeLow (-1)), .int .i64 (rangeHigh (-1))] := by unfold rangeR; rw [if_pos (by omega)]
  have E1 := Lib.hid e1
  have E2 := Lib.hid e2
  have L1 := Lib.hid l1
  have L2 := Lib.hid l2
  have L3 := Lib.hid l3
  have L4 := Lib.hid l4
  obtain ⟨A, hA⟩ : ∃ A, A = level e := ⟨_, rfl⟩
  rw [← hA] at E2
  have HA := Lib.hid hA
  clear hA
  have HS0 := Lib.hid hs
  have HT0 := Lib.hid ht
  clear e1 e2 l1 l2 l3 l4 hs ht he
  go_enter Tryz.func5, Tryz.ntmps5
  go_wp2_with fail
  refine Calls.mono (Level_any _ _ HS0.out) ?_
  rintro x w1 ⟨rfl, hb⟩
  rw [E1.out, E2.out]
  have HB1 := Lib.hid hb
  have HS1 := Lib.hid (HS0.out.keep hb)
  have HT1 := Lib.hid (HT0.out.keep hb)
  clear hb
  go_wp2_with fail
  refine Calls.mono (Threshold_any _ _ HS1.out) ?_
  rintro x w' ⟨rfl, rfl⟩
  rw [L1.out, L3.out]
  go_wp2_with fail
  refine Calls.mono (Range_any _ _ HS1.out) ?_
  rintro x w2 ⟨rfl, hb⟩
  rw [L2.out, L4.out]
  obtain ⟨lo, hlo⟩ : ∃ lo, lo = (rangeLow (-1)) := ⟨_, rfl⟩
  obtain ⟨hi, hhi⟩ : ∃ hi, hi = (rangeHigh (-1)) := ⟨_, rfl⟩
  rw [← hlo, ← hhi]
  have HLO := Lib.hid hlo
  have HHI := Lib.hid hhi
  clear hlo hhi
  have HB2 := Lib.hid (HB1.out.trans (Below.mono hb HB1.out.size))
  have HS2 := Lib.hid (HS1.out.keep hb)
  have HT2 := Lib.hid (HT1.out.keep hb)
  clear hb HB1 HS1 HT1
  go_upto_region 4 with fail
  obtain ⟨w3, hW⟩ : ∃ X, X = w2.alloc (.cells #[.int .i64 lo, .int .i64 hi] 49) := ⟨_, rfl⟩
  rw [← hW]
  obtain ⟨hk, hb⟩ := box_facts _ _ w3 hW
  have HB3 := Lib.hid (HB2.out.trans (Below.mono hb HB2.out.size))
  have HS3 := Lib.hid (HS2.out.keep hb)
  have HT3 := Lib.hid (HT2.out.keep hb)
  have HK3 := Lib.hid hk
  obtain ⟨g1, hg1⟩ : ∃ g, g = w2.heap.size := ⟨_, rfl⟩
  rw [← hg1] at HK3 ⊢
  clear hb hk hW HB2 HS2 HT2 hg1
  go_wp2_with fail
  refine Calls.mono (refCheckEnergy_any _ _) ?_
  rintro x w' ⟨rfl, rfl⟩
  rw [E1.out]
  go_wp2_with fail
  refine Calls.mono (refCheckLevel_any _ _) ?_
  rintro x w' ⟨rfl, rfl⟩
  rw [L1.out]
  go_wp2_with fail
  refine Calls.mono (refCheckRange_any _ _ _ _) ?_
  rintro x w' ⟨rfl, rfl⟩
  rw [L2.out]
  go_upto_region 6 with fail
  obtain ⟨w4, hW⟩ : ∃ X, X = w3.alloc (.cells #[.int .i64 0, .int .i64 0] 49) := ⟨_, rfl⟩
  rw [← hW]
  obtain ⟨hk, hb⟩ := box_facts _ _ w4 hW
  have HB4 := Lib.hid (HB3.out.trans (Below.mono hb HB3.out.size))
  have HS4 := Lib.hid (HS3.out.keep hb)
  have HT4 := Lib.hid (HT3.out.keep hb)
  have HK4 := Lib.hid (HK3.out.below hb)
  have HJ4 := Lib.hid hk
  have hwg : w.heap.size ≤ w3.heap.size := HB3.out.size
  obtain ⟨g2, hg2⟩ : ∃ g, g = w3.heap.size := ⟨_, rfl⟩
  rw [← hg2] at HJ4 hwg ⊢
  have HNE : Hid (g1 ≠ g2) := by have := lt_of_block HK3.out; show _ ≠ _; omega
  clear hb hk hW HB3 HS3 HT3 HK3 hg2
  go_wp2_with fail
  refine Calls.mono (refLevel_any _ _) ?_
  rintro x w5 ⟨rfl, hb⟩
  rw [← HA.out]
  have HB5 := Lib.hid (HB4.out.trans (Below.mono hb HB4.out.size))
  have HS5 := Lib.hid (HS4.out.keep hb)
  have HT5 := Lib.hid (HT4.out.keep hb)
  have HK5 := Lib.hid (HK4.out.below hb)
  have HJ5 := Lib.hid (HJ4.out.below hb)
  clear hb HB4 HS4 HT4 HK4 HJ4
  go_wp2_with fail
  refine Calls.mono (refRange_any _ _ (by omega) (by omega)) ?_
  rintro x w6 ⟨rfl, hb⟩
  rw [← HLO.out, ← HHI.out]
  have HB6 := Lib.hid (HB5.out.trans (Below.mono hb HB5.out.size))
  have HS6 := Lib.hid (HS5.out.keep hb)
  have HT6 := Lib.hid (HT5.out.keep hb)
  have HK6 := Lib.hid (HK5.out.below hb)
  have HJ6 := Lib.hid (HJ5.out.below hb)
  clear hb HB5 HS5 HT5 HK5 HJ5
  have y0 := HJ6.out.cell 0; have z0 := HJ6.out.frozen 0; have y1 := HJ6.out.cell 1; have z1 := HJ6.out.frozen 1
  simp only [List.getElem?_toArray, List.getElem?_cons_zero, List.getElem?_cons_succ] at y0 y1
  go_upto_region 12 with fail
  obtain ⟨w7, hW⟩ : ∃ X, X = (w6.setCell ⟨g2, 0, none⟩ (.int .i64 lo)).setCell ⟨g2, 1, none⟩ (.int .i64 hi) := ⟨_, rfl⟩
  rw [← hW]
  have HB7 : Hid (Below w.heap.size w w7) := by show Below _ _ _; rw [hW]; exact (HB6.out.setCell (p := ⟨g2, 0, none⟩) hwg _).setCell (p := ⟨g2, 1, none⟩) hwg _
  have HK7 : Hid (Blk w7 g1 49 #[.int .i64 lo, .int .i64 hi]) := by show Blk _ _ _ _; rw [hW]; exact (HK6.out.far (p := ⟨g2, 0, none⟩) HNE.out _).far (p := ⟨g2, 1, none⟩) HNE.out _
  have HJ7 : Hid (Blk w7 g2 49 #[.int .i64 lo, .int .i64 hi]) := by show Blk _ _ _ _; rw [hW]; exact (HJ6.out.set_ 0 _).set_ 1 _
  have HS7 := Lib.hid (HS0.out.keep HB7.out)
  have HT7 := Lib.hid (HT0.out.keep HB7.out)
  clear hW HB6 HS6 HT6 HK6 HJ6 y0 y1 z0 z1
  have y0 := HJ7.out.cell 0; have y1 := HJ7.out.cell 1
  simp only [List.getElem?_toArray, List.getElem?_cons_zero, List.getElem?_cons_succ] at y0 y1
  have x0 := HK7.out.cell 0; have x1 := HK7.out.cell 1
  simp only [List.getElem?_toArray, List.getElem?_cons_zero, List.getElem?_cons_succ] at x0 x1
  go_wp2_with fail
  refine Calls.mono (checkEnergy_any _ _) ?_
  rintro x w' ⟨rfl, rfl⟩
  rw [E1.out]
  go_wp2_with fail
  refine Calls.mono (awake_any _ HS7.out HT7.out) ?_
  rintro x w9 ⟨rfl, hb⟩
  have HB9 := Lib.hid (HB7.out.trans (Below.mono hb HB7.out.size))
  clear hb
  go_wp2
  go_ret
  exact ⟨rfl, HB9.out⟩

set_option maxHeartbeats 4000000 in
set_option maxRecDepth 100000 in
theorem levels_13 (e l : Int) (he : 0 ≤ e ∧ e ≤ 10000000000000) (hl : ¬ (-1 ≤ l ∧ l ≤ 120)) (w : World) (hs : Steps w) (ht : Tab w) :
    Calls Tryz.prog 5 #[.int .i64 e, .int .i64 l] w fun x w' => x = .returned (.bool true) ∧ Below w.heap.size w w' := by
  have e1 : checkEnergyE e = 0 := by unfold checkEnergyE; exact withinE_of he.1 he.2
  have e2 : levelR e = level e := by unfold levelR; rw [if_pos he]
  have l1 : withinE l 0 120 = 3 := withinE_bad (by omega)
  have l2 : withinE l (-1) 120 = 3 := withinE_bad hl
  have l3 : thresholdR l = 0 := by unfold thresholdR; rw [if_neg (by omega)]
  have l4 : rangeR l = .agg #[.int .i64 0, .int .i64 0] := by unfold rangeR; rw [if_neg hl]
  have E1 := Lib.hid e1
  have E2 := Lib.hid e2
  have L1 := Lib.hid l1
  have L2 := Lib.hid l2
  have L3 := Lib.hid l3
  have L4 := Lib.hid l4
  obtain ⟨A, hA⟩ : ∃ A, A = level e := ⟨_, rfl⟩
  rw [← hA] at E2
  have HA := Lib.hid hA
  clear hA
  have HS0 := Lib.hid hs
  have HT0 := Lib.hid ht
  clear e1 e2 l1 l2 l3 l4 hs ht he
  go_enter Tryz.func5, Tryz.ntmps5
  go_wp2_with fail
  refine Calls.mono (Level_any _ _ HS0.out) ?_
  rintro x w1 ⟨rfl, hb⟩
  rw [E1.out, E2.out]
  have HB1 := Lib.hid hb
  have HS1 := Lib.hid (HS0.out.keep hb)
  have HT1 := Lib.hid (HT0.out.keep hb)
  clear hb
  go_wp2_with fail
  refine Calls.mono (Threshold_any _ _ HS1.out) ?_
  rintro x w' ⟨rfl, rfl⟩
  rw [L1.out, L3.out]
  go_wp2_with fail
  refine Calls.mono (Range_any _ _ HS1.out) ?_
  rintro x w2 ⟨rfl, hb⟩
  rw [L2.out, L4.out]
  have HB2 := Lib.hid (HB1.out.trans (Below.mono hb HB1.out.size))
  have HS2 := Lib.hid (HS1.out.keep hb)
  have HT2 := Lib.hid (HT1.out.keep hb)
  clear hb HB1 HS1 HT1
  go_upto_region 4 with fail
  obtain ⟨w3, hW⟩ : ∃ X, X = w2.alloc (.cells #[.int .i64 0, .int .i64 0] 49) := ⟨_, rfl⟩
  rw [← hW]
  obtain ⟨hk, hb⟩ := box_facts _ _ w3 hW
  have HB3 := Lib.hid (HB2.out.trans (Below.mono hb HB2.out.size))
  have HS3 := Lib.hid (HS2.out.keep hb)
  have HT3 := Lib.hid (HT2.out.keep hb)
  have HK3 := Lib.hid hk
  obtain ⟨g1, hg1⟩ : ∃ g, g = w2.heap.size := ⟨_, rfl⟩
  rw [← hg1] at HK3 ⊢
  clear hb hk hW HB2 HS2 HT2 hg1
  go_wp2_with fail
  refine Calls.mono (refCheckEnergy_any _ _) ?_
  rintro x w' ⟨rfl, rfl⟩
  rw [E1.out]
  go_wp2_with fail
  refine Calls.mono (refCheckLevel_any _ _) ?_
  rintro x w' ⟨rfl, rfl⟩
  rw [L1.out]
  go_wp2_with fail
  refine Calls.mono (refCheckRange_any _ _ _ _) ?_
  rintro x w' ⟨rfl, rfl⟩
  rw [L2.out]
  go_upto_region 6 with fail
  obtain ⟨w4, hW⟩ : ∃ X, X = w3.alloc (.cells #[.int .i64 0, .int .i64 0] 49) := ⟨_, rfl⟩
  rw [← hW]
  obtain ⟨hk, hb⟩ := box_facts _ _ w4 hW
  have HB4 := Lib.hid (HB3.out.trans (Below.mono hb HB3.out.size))
  have HS4 := Lib.hid (HS3.out.keep hb)
  have HT4 := Lib.hid (HT3.out.keep hb)
  have HK4 := Lib.hid (HK3.out.below hb)
  have HJ4 := Lib.hid hk
  have hwg : w.heap.size ≤ w3.heap.size := HB3.out.size
  obtain ⟨g2, hg2⟩ : ∃ g, g = w3.heap.size := ⟨_, rfl⟩
  rw [← hg2] at HJ4 hwg ⊢
  have HNE : Hid (g1 ≠ g2) := by have := lt_of_block HK3.out; show _ ≠ _; omega
  clear hb hk hW HB3 HS3 HT3 HK3 hg2
  go_wp2_with fail
  refine Calls.mono (refLevel_any _ _) ?_
  rintro x w5 ⟨rfl, hb⟩
  rw [← HA.out]
  have HB5 := Lib.hid (HB4.out.trans (Below.mono hb HB4.out.size))
  have HS5 := Lib.hid (HS4.out.keep hb)
  have HT5 := Lib.hid (HT4.out.keep hb)
  have HK5 := Lib.hid (HK4.out.below hb)
  have HJ5 := Lib.hid (HJ4.out.below hb)
  clear hb HB4 HS4 HT4 HK4 HJ4
  have y0 := HJ5.out.cell 0; have y1 := HJ5.out.cell 1
  simp only [List.getElem?_toArray, List.getElem?_cons_zero, List.getElem?_cons_succ] at y0 y1
  have x0 := HK5.out.cell 0; have x1 := HK5.out.cell 1
  simp only [List.getElem?_toArray, List.getElem?_cons_zero, List.getElem?_cons_succ] at x0 x1
  go_wp2_with fail
  refine Calls.mono (checkEnergy_any _ _) ?_
  rintro x w' ⟨rfl, rfl⟩
  rw [E1.out]
  go_wp2_with fail
  refine Calls.mono (awake_any _ HS5.out HT5.out) ?_
  rintro x w9 ⟨rfl, hb⟩
  have HB9 := Lib.hid (HB5.out.trans (Below.mono hb HB5.out.size))
  clear hb
  go_wp2
  go_ret
  exact ⟨rfl, HB9.out⟩

set_option maxHeartbeats 4000000 in
set_option maxRecDepth 100000 in
theorem levels_21 (e : Int) (m : Nat) (he : ¬ (0 ≤ e ∧ e ≤ 10000000000000)) (hm : m ≤ 120) (w : World) (hs : Steps w) (ht : Tab w) :
    Calls Tryz.prog 5 #[.int .i64 e, .int .i64 (m : Int)] w fun x w' => x = .returned (.bool true) ∧ Below w.heap.size w w' := by
  have e1 : checkEnergyE e = 3 := by unfold checkEnergyE; exact withinE_bad he
  have e2 : levelR e = 0 := by unfold levelR; rw [if_neg he]
  have l1 : withinE (m : Int) 0 120 = 0 := withinE_of (by omega) (by omega)
  have l2 : withinE (m : Int) (-1) 120 = 0 := withinE_of (by omega) (by omega)
  have l3 : thresholdR (m : Int) = thr m := by unfold thresholdR; rw [if_pos (by omega), Int.toNat_natCast]
  have l4 : rangeR (m : Int) = .agg #[.int .i64 (rangeLow m), .int .i64 (rangeHigh m)] := by unfold rangeR; rw [if_pos (by omega)]
  have E1 := Lib.hid e1
  have E2 := Lib.hid e2
  have L1 := Lib.hid l1
  have L2 := Lib.hid l2
  have L3 := Lib.hid l3
  have L4 := Lib.hid l4
  have HS0 := Lib.hid hs
  have HT0 := Lib.hid ht
  clear e1 e2 l1 l2 l3 l4 hs ht he
  go_enter Tryz.func5, Tryz.ntmps5
  go_wp2_with fail
  refine Calls.mono (Level_any _ _ HS0.out) ?_
  rintro x w1 ⟨rfl, hb⟩
  rw [E1.out, E2.out]
  have HB1 := Lib.hid hb
  have HS1 := Lib.hid (HS0.out.keep hb)
  have HT1 := Lib.hid (HT0.out.keep hb)
  clear hb
  go_wp2_with fail
  refine Calls.mono (Threshold_any _ _ HS1.out) ?_
  rintro x w' ⟨rfl, rfl⟩
  rw [L1.out, L3.out]
  go_wp2_with fail
  refine Calls.mono (Range_any _ _ HS1.out) ?_
  rintro x w2 ⟨rfl, hb⟩
  rw [L2.out, L4.out]
  obtain ⟨lo, hlo⟩ : ∃ lo, lo = (rangeLow (m : Int)) := ⟨_, rfl⟩
  obtain ⟨hi, hhi⟩ : ∃ hi, hi = (rangeHigh (m : Int)) := ⟨_, rfl⟩
  rw [← hlo, ← hhi]
  have HLO := Lib.hid hlo
  have HHI := Lib.hid hhi
  clear hlo hhi
  have HB2 := Lib.hid (HB1.out.trans (Below.mono hb HB1.out.size))
  have HS2 := Lib.hid (HS1.out.keep hb)
  have HT2 := Lib.hid (HT1.out.keep hb)
  clear hb HB1 HS1 HT1
  go_upto_region 4 with fail
  obtain ⟨w3, hW⟩ : ∃ X, X = w2.alloc (.cells #[.int .i64 lo, .int .i64 hi] 49) := ⟨_, rfl⟩
  rw [← hW]
  obtain ⟨hk, hb⟩ := box_facts _ _ w3 hW
  have HB3 := Lib.hid (HB2.out.trans (Below.mono hb HB2.out.size))
  have HS3 := Lib.hid (HS2.out.keep hb)
  have HT3 := Lib.hid (HT2.out.keep hb)
  have HK3 := Lib.hid hk
  obtain ⟨g1, hg1⟩ : ∃ g, g = w2.heap.size := ⟨_, rfl⟩
  rw [← hg1] at HK3 ⊢
  clear hb hk hW HB2 HS2 HT2 hg1
  go_wp2_with fail
  refine Calls.mono (refCheckEnergy_any _ _) ?_
  rintro x w' ⟨rfl, rfl⟩
  rw [E1.out]
  go_wp2_with fail
  refine Calls.mono (refCheckLevel_any _ _) ?_
  rintro x w' ⟨rfl, rfl⟩
  rw [L1.out]
  go_wp2_with fail
  refine Calls.mono (refCheckRange_any _ _ _ _) ?_
  rintro x w' ⟨rfl, rfl⟩
  rw [L2.out]
  go_upto_region 6 with fail
  obtain ⟨w4, hW⟩ : ∃ X, X = w3.alloc (.cells #[.int .i64 0, .int .i64 0] 49) := ⟨_, rfl⟩
  rw [← hW]
  obtain ⟨hk, hb⟩ := box_facts _ _ w4 hW
  have HB4 := Lib.hid (HB3.out.trans (Below.mono hb HB3.out.size))
  have HS4 := Lib.hid (HS3.out.keep hb)
  have HT4 := Lib.hid (HT3.out.keep hb)
  have HK4 := Lib.hid (HK3.out.below hb)
  have HJ4 := Lib.hid hk
  have hwg : w.heap.size ≤ w3.heap.size := HB3.out.size
  obtain ⟨g2, hg2⟩ : ∃ g, g = w3.heap.size := ⟨_, rfl⟩
  rw [← hg2] at HJ4 hwg ⊢
  have HNE : Hid (g1 ≠ g2) := by have := lt_of_block HK3.out; show _ ≠ _; omega
  clear hb hk hW HB3 HS3 HT3 HK3 hg2
  go_wp2_with fail
  refine Calls.mono (refThreshold_any m _ (by omega)) ?_
  rintro x w5 ⟨rfl, hb⟩
  have HB5 := Lib.hid (HB4.out.trans (Below.mono hb HB4.out.size))
  have HS5 := Lib.hid (HS4.out.keep hb)
  have HT5 := Lib.hid (HT4.out.keep hb)
  have HK5 := Lib.hid (HK4.out.below hb)
  have HJ5 := Lib.hid (HJ4.out.below hb)
  clear hb HB4 HS4 HT4 HK4 HJ4
  go_wp2_with fail
  refine Calls.mono (refRange_any _ _ (by omega) (by omega)) ?_
  rintro x w6 ⟨rfl, hb⟩
  rw [← HLO.out, ← HHI.out]
  have HB6 := Lib.hid (HB5.out.trans (Below.mono hb HB5.out.size))
  have HS6 := Lib.hid (HS5.out.keep hb)
  have HT6 := Lib.hid (HT5.out.keep hb)
  have HK6 := Lib.hid (HK5.out.below hb)
  have HJ6 := Lib.hid (HJ5.out.below hb)
  clear hb HB5 HS5 HT5 HK5 HJ5
  have y0 := HJ6.out.cell 0; have z0 := HJ6.out.frozen 0; have y1 := HJ6.out.cell 1; have z1 := HJ6.out.frozen 1
  simp only [List.getElem?_toArray, List.getElem?_cons_zero, List.getElem?_cons_succ] at y0 y1
  go_upto_region 12 with fail
  obtain ⟨w7, hW⟩ : ∃ X, X = (w6.setCell ⟨g2, 0, none⟩ (.int .i64 lo)).setCell ⟨g2, 1, none⟩ (.int .i64 hi) := ⟨_, rfl⟩
  rw [← hW]
  have HB7 : Hid (Below w.heap.size w w7) := by show Below _ _ _; rw [hW]; exact (HB6.out.setCell (p := ⟨g2, 0, none⟩) hwg _).setCell (p := ⟨g2, 1, none⟩) hwg _
  have HK7 : Hid (Blk w7 g1 49 #[.int .i64 lo, .int .i64 hi]) := by show Blk _ _ _ _; rw [hW]; exact (HK6.out.far (p := ⟨g2, 0, none⟩) HNE.out _).far (p := ⟨g2, 1, none⟩) HNE.out _
  have HJ7 : Hid (Blk w7 g2 49 #[.int .i64 lo, .int .i64 hi]) := by show Blk _ _ _ _; rw [hW]; exact (HJ6.out.set_ 0 _).set_ 1 _
  have HS7 := Lib.hid (HS0.out.keep HB7.out)
  have HT7 := Lib.hid (HT0.out.keep HB7.out)
  clear hW HB6 HS6 HT6 HK6 HJ6 y0 y1 z0 z1
  have y0 := HJ7.out.cell 0; have y1 := HJ7.out.cell 1
  simp only [List.getElem?_toArray, List.getElem?_cons_zero, List.getElem?_cons_succ] at y0 y1
  have x0 := HK7.out.cell 0; have x1 := HK7.out.cell 1
  simp only [List.getElem?_toArray, List.getElem?_cons_zero, List.getElem?_cons_succ] at x0 x1
  go_wp2_with fail
  refine Calls.mono (checkEnergy_any _ _) ?_
  rintro x w' ⟨rfl, rfl⟩
  rw [E1.out]
  go_wp2_with fail
  refine Calls.mono (awake_any _ HS7.out HT7.out) ?_
  rintro x w9 ⟨rfl, hb⟩
  have HB9 := Lib.hid (HB7.out.trans (Below.mono hb HB7.out.size))
  clear hb
  go_wp2
  go_ret
  exact ⟨rfl, HB9.out⟩

set_option maxHeartbeats 4000000 in
set_option maxRecDepth 100000 in
theorem levels_22 (e : Int) (he : ¬ (0 ≤ e ∧ e ≤ 10000000000000)) (w : World) (hs : Steps w) (ht : Tab w) :
    Calls Tryz.prog 5 #[.int .i64 e, .int .i64 (-1)] w fun x w' => x = .returned (.bool true) ∧ Below w.heap.size w w' := by
  have e1 : checkEnergyE e = 3 := by unfold checkEnergyE; exact withinE_bad he
  have e2 : levelR e = 0 := by unfold levelR; rw [if_neg he]
  have l1 : withinE (-1) 0 120 = 3 := withinE_bad (by omega)
  have l2 : withinE (-1) (-1) 120 = 0 := withinE_of (by omega) (by omega)
  have l3 : thresholdR (-1) = 0 := by unfold thresholdR; rw [if_neg (by omega)]
  have l4 : rangeR (-1) = .agg #[.int .i64 (rangeLow (-1)), .int .i64 (rangeHigh (-1))] := by unfold rangeR; rw [if_pos (by omega)]
  have E1 := Lib.hid e1
  have E2 := Lib.hid e2
  have L1 := Lib.hid l1
  have L2 := Lib.hid l2
  have L3 := Lib.hid l3
  have L4 := Lib.hid l4
  have HS0 := Lib.hid hs
  have HT0 := Lib.hid ht
  clear e1 e2 l1 l2 l3 l4 hs ht he
  go_enter Tryz.func5, Tryz.ntmps5
  go_wp2_with fail
  refine Calls.mono (Level_any _ _ HS0.out) ?_
  rintro x w1 ⟨rfl, hb⟩
  rw [E1.out, E2.out]
  have HB1 := Lib.hid hb
  have HS1 := Lib.hid (HS0.out.keep hb)
  have HT1 := Lib.hid (HT0.out.keep hb)
  clear hb
  go_wp2_with fail
  refine Calls.mono (Threshold_any _ _ HS1.out) ?_
  rintro x w' ⟨rfl, rfl⟩
  rw [L1.out, L3.out]
  go_wp2_with fail
  refine Calls.mono (Range_any _ _ HS1.out) ?_
  rintro x w2 ⟨rfl, hb⟩
  rw [L2.out, L4.out]
  obtain ⟨lo, hlo⟩ : ∃ lo, lo = (rangeLow (-1)) := ⟨_, rfl⟩
  obtain ⟨hi, hhi⟩ : ∃ hi, hi = (rangeHigh (-1)) := ⟨_, rfl⟩
  rw [← hlo, ← hhi]
  have HLO := Lib.hid hlo
  have HHI := Lib.hid hhi
  clear hlo hhi
  have HB2 := Lib.hid (HB1.out.trans (Below.mono hb HB1.out.size))
  have HS2 := Lib.hid (HS1.out.keep hb)
  have HT2 := Lib.hid (HT1.out.keep hb)
  clear hb HB1 HS1 HT1
  go_upto_region 4 with fail
  obtain ⟨w3, hW⟩ : ∃ X, X = w2.alloc (.cells #[.int .i64 lo, .int .i64 hi] 49) := ⟨_, rfl⟩
  rw [← hW]
  obtain ⟨hk, hb⟩ := box_facts _ _ w3 hW
  have HB3 := Lib.hid (HB2.out.trans (Below.mono hb HB2.out.size))
  have HS3 := Lib.hid (HS2.out.keep hb)
  have HT3 := Lib.hid (HT2.out.keep hb)
  have HK3 := Lib.hid hk
  obtain ⟨g1, hg1⟩ : ∃ g, g = w2.heap.size := ⟨_, rfl⟩
  rw [← hg1] at HK3 ⊢
  clear hb hk hW HB2 HS2 HT2 hg1
  go_wp2_with fail
  refine Calls.mono (refCheckEnergy_any _ _) ?_
  rintro x w' ⟨rfl, rfl⟩
  rw [E1.out]
  go_wp2_with fail
  refine Calls.mono (refCheckLevel_any _ _) ?_
  rintro x w' ⟨rfl, rfl⟩
  rw [L1.out]
  go_wp2_with fail
  refine Calls.mono (refCheckRange_any _ _ _ _) ?_
  rintro x w' ⟨rfl, rfl⟩
  rw [L2.out]
  go_upto_region 6 with fail
  obtain ⟨w4, hW⟩ : ∃ X, X = w3.alloc (.cells #[.int .i64 0, .int .i64 0] 49) := ⟨_, rfl⟩
  rw [← hW]
  obtain ⟨hk, hb⟩ := box_facts _ _ w4 hW
  have HB4 := Lib.hid (HB3.out.trans (Below.mono hb HB3.out.size))
  have HS4 := Lib.hid (HS3.out.keep hb)
  have HT4 := Lib.hid (HT3.out.keep hb)
  have HK4 := Lib.hid (HK3.out.below hb)
  have HJ4 := Lib.hid hk
  have hwg : w.heap.size ≤ w3.heap.size := HB3.out.size
  obtain ⟨g2, hg2⟩ : ∃ g, g = w3.heap.size := ⟨_, rfl⟩
  rw [← hg2] at HJ4 hwg ⊢
  have HNE : Hid (g1 ≠ g2) := by have := lt_of_block HK3.out; show _ ≠ _; omega
  clear hb hk hW HB3 HS3 HT3 HK3 hg2
  go_wp2_with fail
  refine Calls.mono (refRange_any _ _ (by omega) (by omega)) ?_
  rintro x w5 ⟨rfl, hb⟩
  rw [← HLO.out, ← HHI.out]
  have HB5 := Lib.hid (HB4.out.trans (Below.mono hb HB4.out.size))
  have HS5 := Lib.hid (HS4.out.keep hb)
  have HT5 := Lib.hid (HT4.out.keep hb)
  have HK5 := Lib.hid (HK4.out.below hb)
  have HJ5 := Lib.hid (HJ4.out.below hb)
  clear hb HB4 HS4 HT4 HK4 HJ4
  have y0 := HJ5.out.cell 0; have z0 := HJ5.out.frozen 0; have y1 := HJ5.out.cell 1; have z1 := HJ5.out.frozen 1
  simp only [List.getElem?_toArray, List.getElem?_cons_zero, List.getElem?_cons_succ] at y0 y1
  go_upto_region 12 with fail
  obtain ⟨w6, hW⟩ : ∃ X, X = (w5.setCell ⟨g2, 0, none⟩ (.int .i64 lo)).setCell ⟨g2, 1, none⟩ (.int .i64 hi) := ⟨_, rfl⟩
  rw [← hW]
  have HB6 : Hid (Below w.heap.size w w6) := by show Below _ _ _; rw [hW]; exact (HB5.out.setCell (p := ⟨g2, 0, none⟩) hwg _).setCell (p := ⟨g2, 1, none⟩) hwg _
  have HK6 : Hid (Blk w6 g1 49 #[.int .i64 lo, .int .i64 hi]) := by show Blk _ _ _ _; rw [hW]; exact (HK5.out.far (p := ⟨g2, 0, none⟩) HNE.out _).far (p := ⟨g2, 1, none⟩) HNE.out _
  have HJ6 : Hid (Blk w6 g2 49 #[.int .i64 lo, .int .i64 hi]) := by show Blk _ _ _ _; rw [hW]; exact (HJ5.out.set_ 0 _).set_ 1 _
  have HS6 := Lib.hid (HS0.out.keep HB6.out)
  have HT6 := Lib.hid (HT0.out.keep HB6.out)
  clear hW HB5 HS5 HT5 HK5 HJ5 y0 y1 z0 z1
  have y0 := HJ6.out.cell 0; have y1 := HJ6.out.cell 1
  simp only [List.getElem?_toArray, List.getElem?_cons_zero, List.getElem?_cons_succ] at y0 y1
  have x0 := HK6.out.cell 0; have x1 := HK6.out.cell 1
  simp only [List.getElem?_toArray, List.getElem?_cons_zero, List.getElem?_cons_succ] at x0 x1
  go_wp2_with fail
  refine Calls.mono (checkEnergy_any _ _) ?_
  rintro x w' ⟨rfl, rfl⟩
  rw [E1.out]
  go_wp2_with fail
  refine Calls.mono (awake_any _ HS6.out HT6.out) ?_
  rintro x w9 ⟨rfl, hb⟩
  have HB9 := Lib.hid (HB6.out.trans (Below.mono hb HB6.out.size))
  clear hb
  go_wp2
  go_ret
  exact ⟨rfl, HB9.out⟩

set_option maxHeartbeats 4000000 in
set_option maxRecDepth 100000 in
theorem levels_23 (e l : Int) (he : ¬ (0 ≤ e ∧ e ≤ 10000000000000)) (hl : ¬ (-1 ≤ l ∧ l ≤ 120)) (w : World) (hs : Steps w) (ht : Tab w) :
    Calls Tryz.prog 5 #[.int .i64 e, .int .i64 l] w fun x w' => x = .returned (.bool true) ∧ Below w.heap.size w w' := by
  have e1 : checkEnergyE e = 3 := by unfold checkEnergyE; exact withinE_bad he
  have e2 : levelR e = 0 := by unfold levelR; rw [if_neg he]
  have l1 : withinE l 0 120 = 3 := withinE_bad (by omega)
  have l2 : withinE l (-1) 120 = 3 := withinE_bad hl
  have l3 : thresholdR l = 0 := by unfold thresholdR; rw [if_neg (by omega)]
  have l4 : rangeR l = .agg #[.int .i64 0, .int .i64 0] := by unfold rangeR; rw [if_neg hl]
  have E1 := Lib.hid e1
  have E2 := Lib.hid e2
  have L1 := Lib.hid l1
  have L2 := Lib.hid l2
  have L3 := Lib.hid l3
  have L4 := Lib.hid l4
  have HS0 := Lib.hid hs
  have HT0 := Lib.hid ht
  clear e1 e2 l1 l2 l3 l4 hs ht he
  go_enter Tryz.func5, Tryz.ntmps5
  go_wp2_with fail
  refine Calls.mono (Level_any _ _ HS0.out) ?_
  rintro x w1 ⟨rfl, hb⟩
  rw [E1.out, E2.out]
  have HB1 := Lib.hid hb
  have HS1 := Lib.hid (HS0.out.keep hb)
  have HT1 := Lib.hid (HT0.out.keep hb)
  clear hb
  go_wp2_with fail
  refine Calls.mono (Threshold_any _ _ HS1.out) ?_
  rintro x w' ⟨rfl, rfl⟩
  rw [L1.out, L3.out]
  go_wp2_with fail
  refine Calls.mono (Range_any _ _ HS1.out) ?_
  rintro x w2 ⟨rfl, hb⟩
  rw [L2.out, L4.out]
  have HB2 := Lib.hid (HB1.out.trans (Below.mono hb HB1.out.size))
  have HS2 := Lib.hid (HS1.out.keep hb)
  have HT2 := Lib.hid (HT1.out.keep hb)
  clear hb HB1 HS1 HT1
  go_upto_region 4 with fail
  obtain ⟨w3, hW⟩ : ∃ X, X = w2.alloc (.cells #[.int .i64 0, .int .i64 0] 49) := ⟨_, rfl⟩
  rw [← hW]
  obtain ⟨hk, hb⟩ := box_facts _ _ w3 hW
  have HB3 := Lib.hid (HB2.out.trans (Below.mono hb HB2.out.size))
  have HS3 := Lib.hid (HS2.out.keep hb)
  have HT3 := Lib.hid (HT2.out.keep hb)
  have HK3 := Lib.hid hk
  obtain ⟨g1, hg1⟩ : ∃ g, g = w2.heap.size := ⟨_, rfl⟩
  rw [← hg1] at HK3 ⊢
  clear hb hk hW HB2 HS2 HT2 hg1
  go_wp2_with fail
  refine Calls.mono (refCheckEnergy_any _ _) ?_
  rintro x w' ⟨rfl, rfl⟩
  rw [E1.out]
  go_wp2_with fail
  refine Calls.mono (refCheckLevel_any _ _) ?_
  rintro x w' ⟨rfl, rfl⟩
  rw [L1.out]
  go_wp2_with fail
  refine Calls.mono (refCheckRange_any _ _ _ _) ?_
  rintro x w' ⟨rfl, rfl⟩
  rw [L2.out]
  go_upto_region 6 with fail
  obtain ⟨w4, hW⟩ : ∃ X, X = w3.alloc (.cells #[.int .i64 0, .int .i64 0] 49) := ⟨_, rfl⟩
  rw [← hW]
  obtain ⟨hk, hb⟩ := box_facts _ _ w4 hW
  have HB4 := Lib.hid (HB3.out.trans (Below.mono hb HB3.out.size))
  have HS4 := Lib.hid (HS3.out.keep hb)
  have HT4 := Lib.hid (HT3.out.keep hb)
  have HK4 := Lib.hid (HK3.out.below hb)
  have HJ4 := Lib.hid hk
  have hwg : w.heap.size ≤ w3.heap.size := HB3.out.size
  obtain ⟨g2, hg2⟩ : ∃ g, g = w3.heap.size := ⟨_, rfl⟩
  rw [← hg2] at HJ4 hwg ⊢
  have HNE : Hid (g1 ≠ g2) := by have := lt_of_block HK3.out; show _ ≠ _; omega
  clear hb hk hW HB3 HS3 HT3 HK3 hg2
  have y0 := HJ4.out.cell 0; have y1 := HJ4.out.cell 1
  simp only [List.getElem?_toArray, List.getElem?_cons_zero, List.getElem?_cons_succ] at y0 y1
  have x0 := HK4.out.cell 0; have x1 := HK4.out.cell 1
  simp only [List.getElem?_toArray, List.getElem?_cons_zero, List.getElem?_cons_succ] at x0 x1
  go_wp2_with fail
  refine Calls.mono (checkEnergy_any _ _) ?_
  rintro x w' ⟨rfl, rfl⟩
  rw [E1.out]
  go_wp2_with fail
  refine Calls.mono (awake_any _ HS4.out HT4.out) ?_
  rintro x w9 ⟨rfl, hb⟩
  have HB9 := Lib.hid (HB4.out.trans (Below.mono hb HB4.out.size))
  clear hb
  go_wp2
  go_ret
  exact ⟨rfl, HB9.out⟩

theorem levels_walk (e l : Int) (w : World) (hs : Steps w) (ht : Tab w) :
    Calls Tryz.prog 5 #[.int .i64 e, .int .i64 l] w fun x w' => x = .returned (.bool true) ∧ Below w.heap.size w w' := by
  by_cases he : 0 ≤ e ∧ e ≤ 10000000000000
  · by_cases h0 : 0 ≤ l ∧ l ≤ 120
    · obtain ⟨m, rfl⟩ : ∃ m : Nat, l = (m : Int) := ⟨l.toNat, by omega⟩
      exact levels_11 e m he (by omega) w hs ht
    · by_cases h1 : l = -1
      · subst h1; exact levels_12 e he w hs ht
      · exact levels_13 e l he (by omega) w hs ht
  · by_cases h0 : 0 ≤ l ∧ l ≤ 120
    · obtain ⟨m, rfl⟩ : ∃ m : Nat, l = (m : Int) := ⟨l.toNat, by omega⟩
      exact levels_21 e m he (by omega) w hs ht
    · by_cases h1 : l = -1
      · subst h1; exact levels_22 e he w hs ht
      · exact levels_23 e l he (by omega) w hs ht
end Go.Proofs.YtoipafnlcchmbaaGreatDoor
