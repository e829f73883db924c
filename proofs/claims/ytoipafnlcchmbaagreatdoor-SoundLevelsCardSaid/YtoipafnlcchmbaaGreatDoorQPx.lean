/- The examples of a law, walked: the first half (made by wip/tools/gen_p1.py). -/
import Derived.Test.YtoipafnlcchmbaaGreatDoorQP
import Derived.Test.YtoipafnlcchmbaaGreatDoorQH
import Derived.WalkMore
namespace Go.Proofs.YtoipafnlcchmbaaGreatDoor
open Go.RowKit

theorem neq_sp3 (w : World) : (Op.equalIn 10000 81 (.agg #[.int .i64 3, .int .i64 0, .int .i64 0, .int .i64 0, .int .i64 0, .int .i64 0, .int .i64 0, .int .i64 0]) (.agg #[.int .i64 3, .int .i64 0, .int .i64 0, .int .i64 0, .int .i64 0, .int .i64 0, .int .i64 0, .int .i64 0])).run Tryz.prog w = .ok true w := by kernel_rfl
theorem blk_at0 {w : World} {g : Nat} {t : TypeId} {cs : Array Value} (h : Blk w g t cs) : ∀ j u, cs.toList[j]? = some u → w.cell? ⟨g, 0 + j, none⟩ = some u := fun j u hu => by
  rw [Nat.zero_add, h.cell j]; simpa using hu
theorem blk_add {w : World} {g : Nat} {t : TypeId} {cs : Array Value} (h : Blk w g t cs) : ∀ j u, cs.toList[j]? = some u → w.cell? ((⟨g, 0, none⟩ : Addr).add j) = some u := fun j u hu => by
  have hadd : (⟨g, 0, none⟩ : Addr).add j = ⟨g, j, none⟩ := by unfold Addr.add; split <;> simp_all
  rw [hadd, h.cell j]; simpa using hu
theorem all_one {cs : Array Value} (h : cs.all (·.oneCell') = true) : ∀ u ∈ cs.toList, u.oneCell' = true := fun u hu => (Array.all_eq_true_iff_forall_mem.1 h) u (by simpa using hu)
theorem stream_form {w : World} {base : Nat} {v : Value} (h : OwnB w base v awStream) : ∃ g c, v = .slice (some ⟨g, 0, none⟩) 34 c ∧ 34 ≤ c ∧ BytesAt w (some ⟨g, 0, none⟩) 34 awStream := by
  rcases h.form with ⟨_, h⟩ | ⟨g, cap, hv, _, _, h1, h2, _⟩
  · cases h
  · exact ⟨g, cap, hv, h1, ⟨rfl, fun i hi => allB_of (bs := awStream) (by kernel_rfl) i hi, fun _ => ⟨g, 0, rfl, fun i hi => by rw [Nat.zero_add]; exact h2 i hi⟩⟩⟩
def CellIs (w : World) (g i : Nat) (v : Value) : Prop := w.cell? ⟨g, i, none⟩ = some v ∧ g < w.heap.size
theorem CellIs.keep {w w' : World} {g i : Nat} {v : Value} (h : CellIs w g i v) (hb : Below w.heap.size w w') : CellIs w' g i v := ⟨(hb.cell (p := ⟨g, i, none⟩) h.2).trans h.1, Nat.lt_of_lt_of_le h.2 hb.size⟩

theorem eq_p4 (w : World) : (Op.equalIn 10000 167 (.agg #[.complex .f32 1092616192 0, .complex .f32 3221225472 1073741824, .complex .f32 3221225472 0, .complex .f32 3221225472 3221225472]) (.agg #[.complex .f32 1092616192 0, .complex .f32 3221225472 1073741824, .complex .f32 3221225472 0, .complex .f32 3221225472 3221225472])).run Tryz.prog w = .ok true w := by kernel_rfl
theorem eq_f4 (w : World) : (Op.equalIn 10000 164 (.agg #[.float .f32 1065353216, .float .f32 1073741824, .float .f32 1077936128, .float .f32 1082130432]) (.agg #[.float .f32 1065353216, .float .f32 1073741824, .float .f32 1077936128, .float .f32 1082130432])).run Tryz.prog w = .ok true w := by kernel_rfl
theorem eq_g4 (w : World) : (Op.equalIn 10000 175 (.agg #[.int .i64 2560, .int .i64 0, .int .i64 (-512), .int .i64 512, .int .i64 (-512), .int .i64 0, .int .i64 (-512), .int .i64 (-512)]) (.agg #[.int .i64 2560, .int .i64 0, .int .i64 (-512), .int .i64 512, .int .i64 (-512), .int .i64 0, .int .i64 (-512), .int .i64 (-512)])).run Tryz.prog w = .ok true w := by kernel_rfl
theorem eq_k8 (w : World) : (Op.equalIn 10000 94 (.agg #[.int .u8 24, .int .u8 92, .int .u8 200, .int .u8 92, .int .u8 24, .int .u8 252, .int .u8 8, .int .u8 60]) (.agg #[.int .u8 24, .int .u8 92, .int .u8 200, .int .u8 92, .int .u8 24, .int .u8 252, .int .u8 8, .int .u8 60])).run Tryz.prog w = .ok true w := by kernel_rfl
theorem eq_e7 (w : World) : (Op.equalIn 10000 191 (.agg #[.int .u8 93, .int .u8 4, .int .u8 2, .int .u8 2, .int .u8 1, .int .u8 1, .int .u8 9]) (.agg #[.int .u8 93, .int .u8 4, .int .u8 2, .int .u8 2, .int .u8 1, .int .u8 1, .int .u8 9])).run Tryz.prog w = .ok true w := by kernel_rfl
theorem arr7 (g : Nat) (w : World) : (Instr.arrayAt 191 (.slice (some ⟨g, 0, none⟩) 7 32)).run Tryz.prog w = .ok (.pointer (some ⟨g, 0, none⟩)) w := by kernel_rfl
theorem heardAt_one {w : World} {g : Nat} {t : TypeId} (hx : Blk w g t #[.int .i64 0, .int .i64 2]) : HeardAt w (some ⟨g, 0, none⟩) 1 [(0, 2)] := ⟨rfl, fun _ => ⟨g, 0, rfl, fun i hi => by
  obtain rfl : i = 0 := by omega
  exact ⟨hx.cell 0, hx.cell 1⟩⟩⟩
theorem pack_cell {w : World} {g : Nat} (h : BytesAt w (some ⟨g, 0, none⟩) 22 awPack) (i : Nat) (hi : i < 22) : w.cell? ⟨g, i, none⟩ = some (.int .u8 (awPack.getD i 0)) := by
  obtain ⟨b, off, he, hc⟩ := h.2.2 (by omega)
  cases he
  have := hc i hi
  rwa [Nat.zero_add] at this
theorem pack14 : ∀ i, i < 14 → awPack.getD i 0 = [83, 78, 68, 49, 0, 2, 63, 128, 0, 0, 191, 0, 0, 0].getD i 0 := by decide
theorem self_two : ∀ i, i < 2 → (FloatKind.f32.format.order ([1065353216, 3204448256].getD i 0) ([1065353216, 3204448256].getD i 0) != some .eq) = false := fun i hi => by
  match i, hi with
  | 0, _ => (show _ = _; kernel_rfl)
  | 1, _ => (show _ = _; kernel_rfl)

attribute [local go_sem] arr7 neq_sp3 eq_p4 eq_f4 eq_g4 eq_k8 eq_e7
set_option maxHeartbeats 4000000 in
set_option maxRecDepth 100000 in
theorem awake_any (w : World) (hs : Steps w) (ht : Tab w) :
    Calls Tryz.prog 17 #[] w fun e w' => e = .returned (.bool true) ∧ Below w.heap.size w w' := by
  have HS0 := Lib.hid hs
  have HB0 := Lib.hid (Below.refl w.heap.size w)
  have HT_0 := Lib.hid ht
  clear hs ht
  go_enter Tryz.func17, Tryz.ntmps17
  go_wp2_with fail
  refine (aw_draw _).mono ?_
  rintro e w1 ⟨ga, ca, rfl, ha, hb1⟩
  have HS1 := Lib.hid (HS0.out.keep hb1)
  have HB1 := Lib.hid (HB0.out.trans (Below.mono hb1 HB0.out.size))
  have HT_1 := Lib.hid (HT_0.out.keep hb1)
  have HA_1 := Lib.hid ha
  clear HS0 HB0 HT_0 ha hb1
  go_wp2_with fail
  refine (aw_thr _ HS1.out).mono ?_
  rintro e w' ⟨rfl, rfl⟩
  go_wp2_with fail
  refine (aw_level9 _ HS1.out).mono ?_
  rintro e w2 ⟨rfl, hb⟩
  have HS2 := Lib.hid (HS1.out.keep hb)
  have HB2 := Lib.hid (HB1.out.trans (Below.mono hb HB1.out.size))
  have HT_2 := Lib.hid (HT_1.out.keep hb)
  have HA_2 := Lib.hid (HA_1.out.keep hb)
  clear HS1 HB1 HT_1 HA_1 hb
  go_wp2_with fail
  refine (aw_level99 _ HS2.out).mono ?_
  rintro e w3 ⟨rfl, hb⟩
  have HS3 := Lib.hid (HS2.out.keep hb)
  have HB3 := Lib.hid (HB2.out.trans (Below.mono hb HB2.out.size))
  have HT_3 := Lib.hid (HT_2.out.keep hb)
  have HA_3 := Lib.hid (HA_2.out.keep hb)
  clear HS2 HB2 HT_2 HA_2 hb
  go_wp2_with fail
  refine (aw_range _ HS3.out).mono ?_
  rintro e w4 ⟨rfl, hb⟩
  have HS4 := Lib.hid (HS3.out.keep hb)
  have HB4 := Lib.hid (HB3.out.trans (Below.mono hb HB3.out.size))
  have HT_4 := Lib.hid (HT_3.out.keep hb)
  have HA_4 := Lib.hid (HA_3.out.keep hb)
  clear HS3 HB3 HT_3 HA_3 hb
  go_upto_region 6 with fail
  obtain ⟨w5, hW⟩ : ∃ X, X = w4.alloc (.cells #[.int .i64 20, .int .i64 24] 49) := ⟨_, rfl⟩
  rw [← hW]
  obtain ⟨hk, hb⟩ := box_facts _ _ w5 hW
  have HS5 := Lib.hid (HS4.out.keep hb)
  have HB5 := Lib.hid (HB4.out.trans (Below.mono hb HB4.out.size))
  have HT_5 := Lib.hid (HT_4.out.keep hb)
  have HA_5 := Lib.hid (HA_4.out.keep hb)
  have HF_5 := Lib.hid hk
  obtain ⟨hfg, HFe⟩ : ∃ g, g = w4.heap.size := ⟨_, rfl⟩
  rw [← HFe] at HF_5 ⊢
  clear HS4 HB4 HT_4 HA_4 hk hb hW HFe
  go_wp2_with fail
  refine Calls.mono (aw_average _ _ _ ((Blk.new _ _ _).alloc _) (Blk.at_size _ _ (by simp))) ?_
  rintro e w6 ⟨rfl, hb⟩
  have hb0 : Below w5.heap.size w5 w6 := Below.trans (((Below.refl _ _).alloc (Nat.le_refl _) _).alloc (by simp) _) (Below.mono hb (by first | (simp; done) | (simp; omega)))
  have HS6 := Lib.hid (HS5.out.keep hb0)
  have HB6 := Lib.hid (HB5.out.trans (Below.mono hb0 HB5.out.size))
  have HT_6 := Lib.hid (HT_5.out.keep hb0)
  have HA_6 := Lib.hid (HA_5.out.keep hb0)
  have HF_6 := Lib.hid (HF_5.out.below hb0)
  clear HS5 HB5 HT_5 HA_5 HF_5 hb hb0
  go_wp2_with fail
  refine Calls.mono (aw_penalized _ _ (Blk.new _ _ _)) ?_
  rintro e w7 ⟨rfl, hb⟩
  have hb0 : Below w6.heap.size w6 w7 := Below.trans ((Below.refl _ _).alloc (Nat.le_refl _) _) (Below.mono hb (by first | (simp; done) | (simp; omega)))
  have HS7 := Lib.hid (HS6.out.keep hb0)
  have HB7 := Lib.hid (HB6.out.trans (Below.mono hb0 HB6.out.size))
  have HT_7 := Lib.hid (HT_6.out.keep hb0)
  have HA_7 := Lib.hid (HA_6.out.keep hb0)
  have HF_7 := Lib.hid (HF_6.out.below hb0)
  clear HS6 HB6 HT_6 HA_6 HF_6 hb hb0
  go_wp2_with fail
  refine Calls.mono (aw_maximum _ _ (Blk.new _ _ _)) ?_
  rintro e w8 ⟨rfl, hb⟩
  have hb0 : Below w7.heap.size w7 w8 := Below.trans ((Below.refl _ _).alloc (Nat.le_refl _) _) (Below.mono hb (by first | (simp; done) | (simp; omega)))
  have HS8 := Lib.hid (HS7.out.keep hb0)
  have HB8 := Lib.hid (HB7.out.trans (Below.mono hb0 HB7.out.size))
  have HT_8 := Lib.hid (HT_7.out.keep hb0)
  have HA_8 := Lib.hid (HA_7.out.keep hb0)
  have HF_8 := Lib.hid (HF_7.out.below hb0)
  clear HS7 HB7 HT_7 HA_7 HF_7 hb hb0
  go_wp2_with fail
  refine Calls.mono (aw_above _ _ (Steps.alloc HS8.out _) (Blk.new _ _ _)) ?_
  rintro e w9 ⟨rfl, hb⟩
  have hb0 : Below w8.heap.size w8 w9 := Below.trans ((Below.refl _ _).alloc (Nat.le_refl _) _) (Below.mono hb (by first | (simp; done) | (simp; omega)))
  have HS9 := Lib.hid (HS8.out.keep hb0)
  have HB9 := Lib.hid (HB8.out.trans (Below.mono hb0 HB8.out.size))
  have HT_9 := Lib.hid (HT_8.out.keep hb0)
  have HA_9 := Lib.hid (HA_8.out.keep hb0)
  have HF_9 := Lib.hid (HF_8.out.below hb0)
  clear HS8 HB8 HT_8 HA_8 HF_8 hb hb0
  go_wp2_with fail
  refine (aw_weighted _).mono ?_
  rintro e w10 ⟨rfl, hb⟩
  have HS10 := Lib.hid (HS9.out.keep hb)
  have HB10 := Lib.hid (HB9.out.trans (Below.mono hb HB9.out.size))
  have HT_10 := Lib.hid (HT_9.out.keep hb)
  have HA_10 := Lib.hid (HA_9.out.keep hb)
  have HF_10 := Lib.hid (HF_9.out.below hb)
  clear HS9 HB9 HT_9 HA_9 HF_9 hb
  go_upto_region 11 with fail
  obtain ⟨w11, hW⟩ : ∃ X, X = w10.alloc (.cells #[.int .i64 3, .int .i64 0, .int .i64 0, .int .i64 0, .int .i64 0, .int .i64 0, .int .i64 0, .int .i64 0] 81) := ⟨_, rfl⟩
  rw [← hW]
  obtain ⟨hk, hb⟩ := box_facts _ _ w11 hW
  have HS11 := Lib.hid (HS10.out.keep hb)
  have HB11 := Lib.hid (HB10.out.trans (Below.mono hb HB10.out.size))
  have HT_11 := Lib.hid (HT_10.out.keep hb)
  have HA_11 := Lib.hid (HA_10.out.keep hb)
  have HF_11 := Lib.hid (HF_10.out.below hb)
  have HK_11 := Lib.hid hk
  obtain ⟨hkg, HKe⟩ : ∃ g, g = w10.heap.size := ⟨_, rfl⟩
  rw [← HKe] at HK_11 ⊢
  clear HS10 HB10 HT_10 HA_10 HF_10 hk hb hW HKe
  go_wp2_with fail
  refine (aw_through _).mono ?_
  rintro e w12 ⟨rfl, hb⟩
  have HS12 := Lib.hid (HS11.out.keep hb)
  have HB12 := Lib.hid (HB11.out.trans (Below.mono hb HB11.out.size))
  have HT_12 := Lib.hid (HT_11.out.keep hb)
  have HA_12 := Lib.hid (HA_11.out.keep hb)
  have HF_12 := Lib.hid (HF_11.out.below hb)
  have HK_12 := Lib.hid (HK_11.out.below hb)
  clear HS11 HB11 HT_11 HA_11 HF_11 HK_11 hb
  have BW2 : Below w12.heap.size w12 ((w12.alloc (.cells #[.int .i64 3, .int .i64 10] 49)).alloc (.cells #[.int .i64 2, .int .i64 0, .int .i64 1] 3)) := ((Below.refl _ _).alloc (Nat.le_refl _) _).alloc (by simp) _
  go_wp2_with fail
  refine Calls.mono (sameInts_any _ _ 3 3 _ _ [2, 0, 1] [2, 0, 1] _ (by omega) (by omega) (HA_12.out.keep BW2) (intsAt_blk [2, 0, 1] (Blk.at_size _ _ (by simp)))) ?_
  rintro e w13 ⟨rfl, q, hw⟩
  have hb : Below w12.heap.size w12 w13 := hw ▸ below_drewN' BW2 q
  have HL_13 : Hid (Blk w13 w12.heap.size 49 #[.int .i64 3, .int .i64 10]) := by
    show Blk _ _ _ _
    rw [hw]; exact ((Blk.new _ _ _).alloc _).drewN q
  have HS13 := Lib.hid (HS12.out.keep hb)
  have HB13 := Lib.hid (HB12.out.trans (Below.mono hb HB12.out.size))
  have HT_13 := Lib.hid (HT_12.out.keep hb)
  have HA_13 := Lib.hid (HA_12.out.keep hb)
  have HF_13 := Lib.hid (HF_12.out.below hb)
  have HK_13 := Lib.hid (HK_12.out.below hb)
  rw [show sameB [2, 0, 1] [2, 0, 1] = true from sameB_true rfl]
  obtain ⟨hlg, HLe⟩ : ∃ g, g = w12.heap.size := ⟨_, rfl⟩
  rw [← HLe] at HL_13 ⊢
  clear HS12 HB12 HT_12 HA_12 HF_12 HK_12 hb hw BW2 HLe
  have HFc0 := HF_13.out.cell 0; have HFc1 := HF_13.out.cell 1
  simp only [List.getElem?_toArray, List.getElem?_cons_zero, List.getElem?_cons_succ] at HFc0 HFc1
  have HKc0 := HK_13.out.cell 0; have HKc1 := HK_13.out.cell 1; have HKc2 := HK_13.out.cell 2; have HKc3 := HK_13.out.cell 3; have HKc4 := HK_13.out.cell 4; have HKc5 := HK_13.out.cell 5; have HKc6 := HK_13.out.cell 6; have HKc7 := HK_13.out.cell 7
  simp only [List.getElem?_toArray, List.getElem?_cons_zero, List.getElem?_cons_succ] at HKc0 HKc1 HKc2 HKc3 HKc4 HKc5 HKc6 HKc7
  have HLc0 := HL_13.out.cell 0; have HLc1 := HL_13.out.cell 1
  simp only [List.getElem?_toArray, List.getElem?_cons_zero, List.getElem?_cons_succ] at HLc0 HLc1
  go_wp2_with fail
  refine Calls.mono (aw_four _) ?_
  rintro e w14 ⟨rfl, hb⟩
  have HB14 := Lib.hid (HB13.out.trans (Below.mono hb HB13.out.size))
  have HT_14 := Lib.hid (HT_13.out.keep hb)
  clear HB13 HT_13 hb
  clear HS13 HA_13 HF_13 HK_13 HL_13 HFc0 HFc1 HKc0 HKc1 HKc2 HKc3 HKc4 HKc5 HKc6 HKc7 HLc0 HLc1
  go_upto_region 15 with fail
  obtain ⟨w15, hW⟩ : ∃ X, X = w14.alloc (.cells #[.complex .f32 1092616192 0, .complex .f32 3221225472 1073741824, .complex .f32 3221225472 0, .complex .f32 3221225472 3221225472] 167) := ⟨_, rfl⟩
  rw [← hW]
  obtain ⟨hk, hb⟩ := box_facts _ _ w15 hW
  have HB15 := Lib.hid (HB14.out.trans (Below.mono hb HB14.out.size))
  have HT_15 := Lib.hid (HT_14.out.keep hb)
  have HP_15 := Lib.hid hk
  obtain ⟨hpg, HPe⟩ : ∃ g, g = w14.heap.size := ⟨_, rfl⟩
  rw [← HPe] at HP_15 ⊢
  clear HB14 HT_14 hk hb hW HPe
  have HPc0 := HP_15.out.cell 0; have HPc1 := HP_15.out.cell 1; have HPc2 := HP_15.out.cell 2; have HPc3 := HP_15.out.cell 3
  simp only [List.getElem?_toArray, List.getElem?_cons_zero, List.getElem?_cons_succ] at HPc0 HPc1 HPc2 HPc3
  go_wp2_with fail
  refine Calls.mono (aw_unfour _) ?_
  rintro e w16 ⟨rfl, hb⟩
  have HB16 := Lib.hid (HB15.out.trans (Below.mono hb HB15.out.size))
  have HT_16 := Lib.hid (HT_15.out.keep hb)
  have HP_16 := Lib.hid (HP_15.out.below hb)
  clear HB15 HT_15 HP_15 hb
  go_upto_region 16 with fail
  obtain ⟨w17, hW⟩ : ∃ X, X = w16.alloc (.cells #[.float .f32 1065353216, .float .f32 1073741824, .float .f32 1077936128, .float .f32 1082130432] 164) := ⟨_, rfl⟩
  rw [← hW]
  obtain ⟨hk, hb⟩ := box_facts _ _ w17 hW
  have HB17 := Lib.hid (HB16.out.trans (Below.mono hb HB16.out.size))
  have HT_17 := Lib.hid (HT_16.out.keep hb)
  have HP_17 := Lib.hid (HP_16.out.below hb)
  have HQ_17 := Lib.hid hk
  obtain ⟨hqg, HQe⟩ : ∃ g, g = w16.heap.size := ⟨_, rfl⟩
  rw [← HQe] at HQ_17 ⊢
  clear HB16 HT_16 HP_16 hk hb hW HQe
  clear HPc0 HPc1 HPc2 HPc3
  have HPc0 := HP_17.out.cell 0; have HPc1 := HP_17.out.cell 1; have HPc2 := HP_17.out.cell 2; have HPc3 := HP_17.out.cell 3
  simp only [List.getElem?_toArray, List.getElem?_cons_zero, List.getElem?_cons_succ] at HPc0 HPc1 HPc2 HPc3
  go_wp2_with fail
  refine Calls.mono (aw_cross _) ?_
  rintro e w18 ⟨rfl, hb⟩
  have HB18 := Lib.hid (HB17.out.trans (Below.mono hb HB17.out.size))
  have HT_18 := Lib.hid (HT_17.out.keep hb)
  have HP_18 := Lib.hid (HP_17.out.below hb)
  have HQ_18 := Lib.hid (HQ_17.out.below hb)
  clear HB17 HT_17 HP_17 HQ_17 hb
  go_upto_region 17 with fail
  obtain ⟨w19, hW⟩ : ∃ X, X = w18.alloc (.cells #[.int .i64 2560, .int .i64 0, .int .i64 (-512), .int .i64 512, .int .i64 (-512), .int .i64 0, .int .i64 (-512), .int .i64 (-512)] 175) := ⟨_, rfl⟩
  rw [← hW]
  obtain ⟨hk, hb⟩ := box_facts _ _ w19 hW
  have HB19 := Lib.hid (HB18.out.trans (Below.mono hb HB18.out.size))
  have HT_19 := Lib.hid (HT_18.out.keep hb)
  have HP_19 := Lib.hid (HP_18.out.below hb)
  have HQ_19 := Lib.hid (HQ_18.out.below hb)
  have HR_19 := Lib.hid hk
  obtain ⟨hrg, HRe⟩ : ∃ g, g = w18.heap.size := ⟨_, rfl⟩
  rw [← HRe] at HR_19 ⊢
  clear HB18 HT_18 HP_18 HQ_18 hk hb hW HRe
  clear HPc0 HPc1 HPc2 HPc3
  go_wp2_with fail
  refine Calls.mono (aw_seal _ _ (Blk.new _ _ _)) ?_
  rintro e w20 ⟨rfl, hb⟩
  have hb0 : Below w19.heap.size w19 w20 := Below.trans ((Below.refl _ _).alloc (Nat.le_refl _) _) (Below.mono hb (by first | (simp; done) | (simp; omega)))
  have HB20 := Lib.hid (HB19.out.trans (Below.mono hb0 HB19.out.size))
  have HT_20 := Lib.hid (HT_19.out.keep hb0)
  have HP_20 := Lib.hid (HP_19.out.below hb0)
  have HQ_20 := Lib.hid (HQ_19.out.below hb0)
  have HR_20 := Lib.hid (HR_19.out.below hb0)
  clear HB19 HT_19 HP_19 HQ_19 HR_19 hb hb0 
  go_upto_region 18 with fail
  obtain ⟨w21, hW⟩ : ∃ X, X = w20.alloc (.cells #[.int .u8 24, .int .u8 92, .int .u8 200, .int .u8 92, .int .u8 24, .int .u8 252, .int .u8 8, .int .u8 60] 94) := ⟨_, rfl⟩
  rw [← hW]
  obtain ⟨hk, hb⟩ := box_facts _ _ w21 hW
  have HB21 := Lib.hid (HB20.out.trans (Below.mono hb HB20.out.size))
  have HT_21 := Lib.hid (HT_20.out.keep hb)
  have HP_21 := Lib.hid (HP_20.out.below hb)
  have HQ_21 := Lib.hid (HQ_20.out.below hb)
  have HR_21 := Lib.hid (HR_20.out.below hb)
  have HS_21 := Lib.hid hk
  obtain ⟨hsg, HSe⟩ : ∃ g, g = w20.heap.size := ⟨_, rfl⟩
  rw [← HSe] at HS_21 ⊢
  clear HB20 HT_20 HP_20 HQ_20 HR_20 hk hb hW HSe
  obtain ⟨fr, hfr⟩ : ∃ fr : Array Value, fr = #[.int .u8 93, .int .u8 4, .int .u8 2, .int .u8 2, .int .u8 1, .int .u8 1, .int .u8 9, .int .u8 0, .int .u8 0, .int .u8 0, .int .u8 0, .int .u8 0, .int .u8 0, .int .u8 0, .int .u8 0, .int .u8 0, .int .u8 0, .int .u8 0, .int .u8 0, .int .u8 0, .int .u8 0, .int .u8 0, .int .u8 0, .int .u8 0, .int .u8 10, .int .u8 118, .int .u8 98, .int .u8 78, .int .u8 186, .int .u8 38, .int .u8 18, .int .u8 254] := ⟨_, rfl⟩
  have HFR := Lib.hid hfr
  have HF1 : Hid (fr.all (·.oneCell') = true) := by show _ = _; rw [hfr]; simp [Value.oneCell']
  have HFS : Hid (fr.size = 32) := by show _ = _; rw [hfr]; rfl
  have HFI : Hid ((Tryz.prog.info? 98).map (·.size) = some fr.size) := by show _ = _; rw [HFS.out]; kernel_rfl
  have HFZ : Hid ((#[.int .u8 0, .int .u8 0, .int .u8 0, .int .u8 0, .int .u8 0, .int .u8 0, .int .u8 0, .int .u8 0, .int .u8 0, .int .u8 0, .int .u8 0, .int .u8 0, .int .u8 0, .int .u8 0, .int .u8 0, .int .u8 0, .int .u8 0, .int .u8 0, .int .u8 0, .int .u8 0, .int .u8 0, .int .u8 0, .int .u8 0, .int .u8 0, .int .u8 0, .int .u8 0, .int .u8 0, .int .u8 0, .int .u8 0, .int .u8 0, .int .u8 0, .int .u8 0] : Array Value).size = fr.size) := by show _ = _; rw [HFS.out]; rfl
  go_wp2_with fail
  refine Calls.mono (aw_encode _) ?_
  rintro e w22 ⟨rfl, hb⟩
  rw [← hfr]
  have HB22 := Lib.hid (HB21.out.trans (Below.mono hb HB21.out.size))
  have HT_22 := Lib.hid (HT_21.out.keep hb)
  have HP_22 := Lib.hid (HP_21.out.below hb)
  have HQ_22 := Lib.hid (HQ_21.out.below hb)
  have HR_22 := Lib.hid (HR_21.out.below hb)
  have HS_22 := Lib.hid (HS_21.out.below hb)
  clear HB21 HT_21 HP_21 HQ_21 HR_21 HS_21 hb hfr
  go_upto_region 19 with (refine wpList_store_row rfl 98 _ _ rfl w22.heap.size fr rfl rfl 98 _ (Blk.new _ _ _) HFI.out HFZ.out HF1.out ?_)
  obtain ⟨w23, hW⟩ : ∃ X, X = (w22.alloc (.cells #[.int .u8 0, .int .u8 0, .int .u8 0, .int .u8 0, .int .u8 0, .int .u8 0, .int .u8 0, .int .u8 0, .int .u8 0, .int .u8 0, .int .u8 0, .int .u8 0, .int .u8 0, .int .u8 0, .int .u8 0, .int .u8 0, .int .u8 0, .int .u8 0, .int .u8 0, .int .u8 0, .int .u8 0, .int .u8 0, .int .u8 0, .int .u8 0, .int .u8 0, .int .u8 0, .int .u8 0, .int .u8 0, .int .u8 0, .int .u8 0, .int .u8 0, .int .u8 0] 98)).setRow w22.heap.size fr := ⟨_, rfl⟩
  rw [← hW]
  obtain ⟨hk, hb⟩ := box_facts_row #[.int .u8 0, .int .u8 0, .int .u8 0, .int .u8 0, .int .u8 0, .int .u8 0, .int .u8 0, .int .u8 0, .int .u8 0, .int .u8 0, .int .u8 0, .int .u8 0, .int .u8 0, .int .u8 0, .int .u8 0, .int .u8 0, .int .u8 0, .int .u8 0, .int .u8 0, .int .u8 0, .int .u8 0, .int .u8 0, .int .u8 0, .int .u8 0, .int .u8 0, .int .u8 0, .int .u8 0, .int .u8 0, .int .u8 0, .int .u8 0, .int .u8 0, .int .u8 0] fr 98 rfl w23 hW
  have HB23 := Lib.hid (HB22.out.trans (Below.mono hb HB22.out.size))
  have HT_23 := Lib.hid (HT_22.out.keep hb)
  have HP_23 := Lib.hid (HP_22.out.below hb)
  have HQ_23 := Lib.hid (HQ_22.out.below hb)
  have HR_23 := Lib.hid (HR_22.out.below hb)
  have HS_23 := Lib.hid (HS_22.out.below hb)
  have HE_23 := Lib.hid hk
  obtain ⟨heg, HEe⟩ : ∃ g, g = w22.heap.size := ⟨_, rfl⟩
  rw [← HEe] at HE_23 ⊢
  clear HB22 HT_22 HP_22 HQ_22 HR_22 HS_22 hk hb hW HEe HFI HFZ
  obtain ⟨i0, hi, hz0, hz1, hz2⟩ := info_parts infoB
  have hfl : fr.toList.length = 32 * 1 := by rw [Array.length_toList, HFS.out]
  go_wp2_with (at_builtin; refine wpList_append_arg _ rfl _ _ 106 rfl 5 i0 (.int .u8 0) 1 1 Tryz.underlying106 hi hz0 hz1 hz2 rfl (by decide) w23.heap.size 0 2 2 [.int .u8 1, .int .u8 93] rfl rfl (blk_at0 (Blk.new w23 _ _)) ⟨heg, 0, none⟩ 32 32 fr.toList rfl hfl (blk_add (HE_23.out.alloc _)) (all_one HF1.out) (fun h => by omega) (by unfold maxLen; omega) (by omega) (fun h => by omega) ?_; intro _ v2 w24 hown2 hgrow2)
  have hO : OwnB w24 (w23.alloc (.cells #[.int .u8 1, .int .u8 93] 5)).heap.size v2 awStream := by
    have := hown2
    rw [HFR.out] at this
    exact this
  have hb : Below w23.heap.size w23 w24 := Below.grown ((Below.refl _ _).alloc (Nat.le_refl _) _) hgrow2 (by simp) (fun k hk => by cases hk)
  have HB24 := Lib.hid (HB23.out.trans (Below.mono hb HB23.out.size))
  have HT_24 := Lib.hid (HT_23.out.keep hb)
  have HP_24 := Lib.hid (HP_23.out.below hb)
  have HQ_24 := Lib.hid (HQ_23.out.below hb)
  have HR_24 := Lib.hid (HR_23.out.below hb)
  have HS_24 := Lib.hid (HS_23.out.below hb)
  have HE_24 := Lib.hid (HE_23.out.below hb)
  obtain ⟨g2, c2, hv2, hc2, hB2⟩ := stream_form hO
  subst hv2
  clear HB23 HT_23 HP_23 HQ_23 HR_23 HS_23 HE_23 hb hO hown2 hgrow2 hfl hi hz0 hz1 hz2 i0 HF1
  go_wp2_with fail
  refine Calls.mono (aw_received _ _ _ hc2 hB2) ?_
  rintro e w25 ⟨gr, cgr, hsk, chs, rfl, hc3, hgr, hh, hb⟩
  have HB25 := Lib.hid (HB24.out.trans (Below.mono hb HB24.out.size))
  have HT_25 := Lib.hid (HT_24.out.keep hb)
  have HP_25 := Lib.hid (HP_24.out.below hb)
  have HQ_25 := Lib.hid (HQ_24.out.below hb)
  have HR_25 := Lib.hid (HR_24.out.below hb)
  have HS_25 := Lib.hid (HS_24.out.below hb)
  have HE_25 := Lib.hid (HE_24.out.below hb)
  have HRC_25 : Hid (CellIs w25 gr 2 (.int .i64 258)) := ⟨hc3, hgr⟩
  have HSK_25 := Lib.hid hh
  clear HB24 HT_24 HP_24 HQ_24 HR_24 HS_24 HE_24 hb hc3 hgr hh hc2 hB2
  go_wp2_with fail
  refine Calls.mono (aw_lost _ _ (Blk.new _ _ _)) ?_
  rintro e w26 ⟨gl, cl, rfl, hI, hb⟩
  have hb0 : Below w25.heap.size w25 w26 := Below.trans ((Below.refl _ _).alloc (Nat.le_refl _) _) (Below.mono hb (by first | (simp; done) | (simp; omega)))
  have HB26 := Lib.hid (HB25.out.trans (Below.mono hb0 HB25.out.size))
  have HT_26 := Lib.hid (HT_25.out.keep hb0)
  have HP_26 := Lib.hid (HP_25.out.below hb0)
  have HQ_26 := Lib.hid (HQ_25.out.below hb0)
  have HR_26 := Lib.hid (HR_25.out.below hb0)
  have HS_26 := Lib.hid (HS_25.out.below hb0)
  have HE_26 := Lib.hid (HE_25.out.below hb0)
  have HRC_26 := Lib.hid (HRC_25.out.keep hb0)
  have HSK_26 := Lib.hid (HSK_25.out.keep hb0)
  have HI_26 := Lib.hid hI
  clear HB25 HT_25 HP_25 HQ_25 HR_25 HS_25 HE_25 HRC_25 HSK_25 hb hb0 hI
  go_wp2_with fail
  refine Calls.mono (aw_pack _ _ (Blk.new _ _ _)) ?_
  rintro e w27 ⟨gp, cp, rfl, hcp, hB, hb⟩
  have hb0 : Below w26.heap.size w26 w27 := Below.trans ((Below.refl _ _).alloc (Nat.le_refl _) _) (Below.mono hb (by first | (simp; done) | (simp; omega)))
  have HB27 := Lib.hid (HB26.out.trans (Below.mono hb0 HB26.out.size))
  have HT_27 := Lib.hid (HT_26.out.keep hb0)
  have HP_27 := Lib.hid (HP_26.out.below hb0)
  have HQ_27 := Lib.hid (HQ_26.out.below hb0)
  have HR_27 := Lib.hid (HR_26.out.below hb0)
  have HS_27 := Lib.hid (HS_26.out.below hb0)
  have HE_27 := Lib.hid (HE_26.out.below hb0)
  have HRC_27 := Lib.hid (HRC_26.out.keep hb0)
  have HSK_27 := Lib.hid (HSK_26.out.keep hb0)
  have HI_27 := Lib.hid (HI_26.out.keep hb0)
  have HBT_27 := Lib.hid hB
  clear HB26 HT_26 HP_26 HQ_26 HR_26 HS_26 HE_26 HRC_26 HSK_26 HI_26 hb hb0 hB
  go_wp2_with fail
  refine Calls.mono (aw_unpack _ _ _ hcp HBT_27.out) ?_
  rintro e w28 ⟨Au, cu, rfl, hF, hb⟩
  have HB28 := Lib.hid (HB27.out.trans (Below.mono hb HB27.out.size))
  have HT_28 := Lib.hid (HT_27.out.keep hb)
  have HP_28 := Lib.hid (HP_27.out.below hb)
  have HQ_28 := Lib.hid (HQ_27.out.below hb)
  have HR_28 := Lib.hid (HR_27.out.below hb)
  have HS_28 := Lib.hid (HS_27.out.below hb)
  have HE_28 := Lib.hid (HE_27.out.below hb)
  have HRC_28 := Lib.hid (HRC_27.out.keep hb)
  have HSK_28 := Lib.hid (HSK_27.out.keep hb)
  have HI_28 := Lib.hid (HI_27.out.keep hb)
  have HBT_28 := Lib.hid (HBT_27.out.keep hb)
  have HFL_28 := Lib.hid hF
  clear HB27 HT_27 HP_27 HQ_27 HR_27 HS_27 HE_27 HRC_27 HSK_27 HI_27 HBT_27 hb hF
  go_wp2_with fail
  refine Calls.mono (aw_print _ _ (HT_28.out.keep ((Below.refl _ _).alloc (Nat.le_refl _) _)) (Blk.new _ _ _)) ?_
  rintro e w29 ⟨rfl, hb⟩
  have hb0 : Below w28.heap.size w28 w29 := Below.trans ((Below.refl _ _).alloc (Nat.le_refl _) _) (Below.mono hb (by first | (simp; done) | (simp; omega)))
  have HB29 := Lib.hid (HB28.out.trans (Below.mono hb0 HB28.out.size))
  have HT_29 := Lib.hid (HT_28.out.keep hb0)
  have HP_29 := Lib.hid (HP_28.out.below hb0)
  have HQ_29 := Lib.hid (HQ_28.out.below hb0)
  have HR_29 := Lib.hid (HR_28.out.below hb0)
  have HS_29 := Lib.hid (HS_28.out.below hb0)
  have HE_29 := Lib.hid (HE_28.out.below hb0)
  have HRC_29 := Lib.hid (HRC_28.out.keep hb0)
  have HSK_29 := Lib.hid (HSK_28.out.keep hb0)
  have HI_29 := Lib.hid (HI_28.out.keep hb0)
  have HBT_29 := Lib.hid (HBT_28.out.keep hb0)
  have HFL_29 := Lib.hid (HFL_28.out.keep hb0)
  clear HB28 HT_28 HP_28 HQ_28 HR_28 HS_28 HE_28 HRC_28 HSK_28 HI_28 HBT_28 HFL_28 hb hb0 
  go_wp2_with fail
  refine Calls.mono (aw_sum _ _ (Blk.new _ _ _)) ?_
  rintro e w30 ⟨rfl, hb⟩
  have hb0 : Below w29.heap.size w29 w30 := Below.trans ((Below.refl _ _).alloc (Nat.le_refl _) _) (Below.mono hb (by first | (simp; done) | (simp; omega)))
  have HB30 := Lib.hid (HB29.out.trans (Below.mono hb0 HB29.out.size))
  have HT_30 := Lib.hid (HT_29.out.keep hb0)
  have HP_30 := Lib.hid (HP_29.out.below hb0)
  have HQ_30 := Lib.hid (HQ_29.out.below hb0)
  have HR_30 := Lib.hid (HR_29.out.below hb0)
  have HS_30 := Lib.hid (HS_29.out.below hb0)
  have HE_30 := Lib.hid (HE_29.out.below hb0)
  have HRC_30 := Lib.hid (HRC_29.out.keep hb0)
  have HSK_30 := Lib.hid (HSK_29.out.keep hb0)
  have HI_30 := Lib.hid (HI_29.out.keep hb0)
  have HBT_30 := Lib.hid (HBT_29.out.keep hb0)
  have HFL_30 := Lib.hid (HFL_29.out.keep hb0)
  clear HB29 HT_29 HP_29 HQ_29 HR_29 HS_29 HE_29 HRC_29 HSK_29 HI_29 HBT_29 HFL_29 hb hb0 
  have HPc0 := HP_30.out.cell 0; have HPc1 := HP_30.out.cell 1; have HPc2 := HP_30.out.cell 2; have HPc3 := HP_30.out.cell 3
  simp only [List.getElem?_toArray, List.getElem?_cons_zero, List.getElem?_cons_succ] at HPc0 HPc1 HPc2 HPc3
  have HQc0 := HQ_30.out.cell 0; have HQc1 := HQ_30.out.cell 1; have HQc2 := HQ_30.out.cell 2; have HQc3 := HQ_30.out.cell 3
  simp only [List.getElem?_toArray, List.getElem?_cons_zero, List.getElem?_cons_succ] at HQc0 HQc1 HQc2 HQc3
  have HRc0 := HR_30.out.cell 0; have HRc1 := HR_30.out.cell 1; have HRc2 := HR_30.out.cell 2; have HRc3 := HR_30.out.cell 3; have HRc4 := HR_30.out.cell 4; have HRc5 := HR_30.out.cell 5; have HRc6 := HR_30.out.cell 6; have HRc7 := HR_30.out.cell 7
  simp only [List.getElem?_toArray, List.getElem?_cons_zero, List.getElem?_cons_succ] at HRc0 HRc1 HRc2 HRc3 HRc4 HRc5 HRc6 HRc7
  have HSc0 := HS_30.out.cell 0; have HSc1 := HS_30.out.cell 1; have HSc2 := HS_30.out.cell 2; have HSc3 := HS_30.out.cell 3; have HSc4 := HS_30.out.cell 4; have HSc5 := HS_30.out.cell 5; have HSc6 := HS_30.out.cell 6; have HSc7 := HS_30.out.cell 7
  simp only [List.getElem?_toArray, List.getElem?_cons_zero, List.getElem?_cons_succ] at HSc0 HSc1 HSc2 HSc3 HSc4 HSc5 HSc6 HSc7
  have HEc0 : w30.cell? ⟨heg, 0, none⟩ = some (.int .u8 93) := (HE_30.out.cell 0).trans (by rw [HFR.out]; rfl)
  have HEc1 : w30.cell? ⟨heg, 1, none⟩ = some (.int .u8 4) := (HE_30.out.cell 1).trans (by rw [HFR.out]; rfl)
  have HEc2 : w30.cell? ⟨heg, 2, none⟩ = some (.int .u8 2) := (HE_30.out.cell 2).trans (by rw [HFR.out]; rfl)
  have HEc3 : w30.cell? ⟨heg, 3, none⟩ = some (.int .u8 2) := (HE_30.out.cell 3).trans (by rw [HFR.out]; rfl)
  have HEc4 : w30.cell? ⟨heg, 4, none⟩ = some (.int .u8 1) := (HE_30.out.cell 4).trans (by rw [HFR.out]; rfl)
  have HEc5 : w30.cell? ⟨heg, 5, none⟩ = some (.int .u8 1) := (HE_30.out.cell 5).trans (by rw [HFR.out]; rfl)
  have HEc6 : w30.cell? ⟨heg, 6, none⟩ = some (.int .u8 9) := (HE_30.out.cell 6).trans (by rw [HFR.out]; rfl)
  have HRCc := HRC_30.out.1
  go_wp2_with fail
  go_wp2_with fail
  refine Calls.mono (sameSpans_any _ _ 1 1 _ _ [(0, 2)] [(0, 2)] _ (by omega) (by omega) (HSK_30.out.keep ((Below.refl _ _).alloc (Nat.le_refl _) _)) (heardAt_one (Blk.new _ _ _))) ?_
  rintro e w31 ⟨rfl, q, hw⟩
  have hb0 : Below w30.heap.size w30 w31 := hw ▸ below_drewN' ((Below.refl _ _).alloc (Nat.le_refl _) _) q
  have HB31 := Lib.hid (HB30.out.trans (Below.mono hb0 HB30.out.size))
  have HT_31 := Lib.hid (HT_30.out.keep hb0)
  have HP_31 := Lib.hid (HP_30.out.below hb0)
  have HQ_31 := Lib.hid (HQ_30.out.below hb0)
  have HR_31 := Lib.hid (HR_30.out.below hb0)
  have HS_31 := Lib.hid (HS_30.out.below hb0)
  have HE_31 := Lib.hid (HE_30.out.below hb0)
  have HRC_31 := Lib.hid (HRC_30.out.keep hb0)
  have HSK_31 := Lib.hid (HSK_30.out.keep hb0)
  have HI_31 := Lib.hid (HI_30.out.keep hb0)
  have HBT_31 := Lib.hid (HBT_30.out.keep hb0)
  have HFL_31 := Lib.hid (HFL_30.out.keep hb0)
  clear HB30 HT_30 HP_30 HQ_30 HR_30 HS_30 HE_30 HRC_30 HSK_30 HI_30 HBT_30 HFL_30 hw hb0
  rw [decide_eq_true (rfl : [((0 : Int), (2 : Int))] = [(0, 2)])]
  clear HRCc HPc0 HPc1 HPc2 HPc3 HQc0 HQc1 HQc2 HQc3 HRc0 HRc1 HRc2 HRc3 HRc4 HRc5 HRc6 HRc7 HSc0 HSc1 HSc2 HSc3 HSc4 HSc5 HSc6 HSc7 HEc0 HEc1 HEc2 HEc3 HEc4 HEc5 HEc6
  go_wp2_with fail
  refine Calls.mono (sameInts_any _ _ 2 2 _ _ [0, 1] [0, 1] _ (by omega) (by omega) (HI_31.out.keep ((Below.refl _ _).alloc (Nat.le_refl _) _)) (intsAt_blk [0, 1] (Blk.new _ _ _))) ?_
  rintro e w32 ⟨rfl, q, hw⟩
  have hb0 : Below w31.heap.size w31 w32 := hw ▸ below_drewN' ((Below.refl _ _).alloc (Nat.le_refl _) _) q
  have HB32 := Lib.hid (HB31.out.trans (Below.mono hb0 HB31.out.size))
  have HT_32 := Lib.hid (HT_31.out.keep hb0)
  have HI_32 := Lib.hid (HI_31.out.keep hb0)
  have HBT_32 := Lib.hid (HBT_31.out.keep hb0)
  have HFL_32 := Lib.hid (HFL_31.out.keep hb0)
  clear HB31 HT_31 HI_31 HBT_31 HFL_31 hw hb0
  rw [show sameB [0, 1] [0, 1] = true from sameB_true rfl]
  have hconv : (convert 106 9 (.slice (some ⟨gp, 0, none⟩) 14 cp)).run Tryz.prog w32 = .ok (.string ⟨#[83, 78, 68, 49, 0, 2, 63, 128, 0, 0, 191, 0, 0, 0]⟩) w32 := by
    have h := run_convert_bytes_arg (P := Tryz.prog) w32 106 5 Tryz.underlying106 Tryz.underlying5 gp 0 14 cp [83, 78, 68, 49, 0, 2, 63, 128, 0, 0, 191, 0, 0, 0] rfl (fun i hi => by rw [Nat.zero_add, pack_cell HBT_32.out i (by omega), pack14 i hi]) 9 Tryz.underlying9
    exact h
  go_wp2_with fail
  refine Calls.mono (sameSamples_eq _ _ 2 _ _ [1065353216, 3204448256] _ (by omega) (HFL_32.out.keep ((Below.refl _ _).alloc (Nat.le_refl _) _)) (flAt_two (Blk.new _ _ _)) self_two) ?_
  rintro e w33 ⟨rfl, q, hw⟩
  have hb0 : Below w32.heap.size w32 w33 := hw ▸ below_drewN' ((Below.refl _ _).alloc (Nat.le_refl _) _) q
  clear hconv
  have HB33 := Lib.hid (HB32.out.trans (Below.mono hb0 HB32.out.size))
  have HT_33 := Lib.hid (HT_32.out.keep hb0)
  have HI_33 := Lib.hid (HI_32.out.keep hb0)
  have HBT_33 := Lib.hid (HBT_32.out.keep hb0)
  have HFL_33 := Lib.hid (HFL_32.out.keep hb0)
  clear HB32 HT_32 HI_32 HBT_32 HFL_32 hw hb0
  go_wp2_with fail
  refine Calls.mono (aw_name1 _) ?_
  rintro e w34 ⟨rfl, hb⟩
  have HB34 := Lib.hid (HB33.out.trans (Below.mono hb HB33.out.size))
  have HT_34 := Lib.hid (HT_33.out.keep hb)
  have HI_34 := Lib.hid (HI_33.out.keep hb)
  have HBT_34 := Lib.hid (HBT_33.out.keep hb)
  have HFL_34 := Lib.hid (HFL_33.out.keep hb)
  clear HB33 HT_33 HI_33 HBT_33 HFL_33 hb
  go_wp2_with fail
  refine Calls.mono (aw_name2 _) ?_
  rintro e w35 ⟨rfl, hb⟩
  have HB35 := Lib.hid (HB34.out.trans (Below.mono hb HB34.out.size))
  have HT_35 := Lib.hid (HT_34.out.keep hb)
  have HI_35 := Lib.hid (HI_34.out.keep hb)
  have HBT_35 := Lib.hid (HBT_34.out.keep hb)
  have HFL_35 := Lib.hid (HFL_34.out.keep hb)
  clear HB34 HT_34 HI_34 HBT_34 HFL_34 hb
  go_wp2
  go_ret
  exact ⟨rfl, HB35.out⟩
end Go.Proofs.YtoipafnlcchmbaaGreatDoor
