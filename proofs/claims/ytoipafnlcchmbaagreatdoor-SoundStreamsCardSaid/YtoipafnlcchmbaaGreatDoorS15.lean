/- SoundStreams, walked. -/
import Derived.Test.YtoipafnlcchmbaaGreatDoorQPx
import Derived.Test.YtoipafnlcchmbaaGreatDoorQYx
import Derived.Test.YtoipafnlcchmbaaGreatDoorQW
namespace Go.Proofs.YtoipafnlcchmbaaGreatDoor
open Go.RowKit

theorem packL_pos (fs : List Nat) : 14 ≤ (packL fs).length := by
  unfold packL packHead
  rw [List.length_append, List.length_append, sealL_len]
  simp
theorem unpackL_len (zs : List Int) : (unpackL zs).length ≤ zs.length := by
  unfold unpackL
  split
  · rw [numsOf_len]; omega
  · simp

set_option maxHeartbeats 4000000 in
set_option maxRecDepth 100000 in
theorem streams_small_good (A B : Option Addr) (n c m d : Nat) (fs : List Nat) (zs : List Int) (w : World) (hz : FlAt w A n fs) (hf : ∀ i, i < n → fs.getD i 0 < 4294967296) (hA : A = none → c = 0) (hnc : n ≤ c) (hn : n ≤ 140737488351232) (hb : BytesAt w B m zs) (hB : B = none → d = 0) (hmd : m ≤ d) (hst : Steps w) (ht : Tab w) (h1 : n ≤ 40 ∨ n = 4097) (hm : m ≤ 300) (hE : checkSamplesE fs = 0) :
    Calls Tryz.prog 11 #[.slice A n c, .slice B m d] w fun x w' => x = .returned (.bool true) ∧ Below w.heap.size w w' := by
  have HZ := Lib.hid hz
  have HF := Lib.hid hf
  have HBZ := Lib.hid hb
  have HS := Lib.hid hst
  have HT := Lib.hid ht
  have HA := Lib.hid hA
  have HBB := Lib.hid hB
  clear hz hf hb hst ht hA hB
  have D1 := Lib.hid (decide_eq_true h1)
  have HN : Hid (n ≤ 100000) := by show _ ≤ _; omega
  have HM : Hid (m ≤ 300 ∨ 400000 < m) := by show _ ∨ _; omega
  have HMM : Hid (m ≤ 1000000) := by show _ ≤ _; omega
  have hm1 : decide ((300 : Int) < (m : Int)) = false := by simp; omega
  have h4096 : n ≤ 4096 := Classical.byContradiction fun h => by
    have := checkSamplesE_many fs (by rw [HZ.out.1]; omega)
    rw [this] at hE; cases hE
  obtain ⟨gs, hgs⟩ : ∃ gs, gs = fs.map norm := ⟨_, rfl⟩
  have hgl : gs.length = n := by rw [hgs, List.length_map, HZ.out.1]
  have hgv : ∀ i, i < n → gs.getD i 0 = norm (fs.getD i 0) := fun i hi => by
    rw [hgs]
    simp [List.getD_eq_getElem?_getD, List.getElem?_map, List.getElem?_eq_getElem (show i < fs.length by rw [HZ.out.1]; exact hi)]
  have hgb : ∀ b ∈ gs, b < 4294967296 := fun b hb => by
    rw [hgs] at hb
    obtain ⟨a, ha, rfl⟩ := List.mem_map.1 hb
    obtain ⟨i, hi, rfl⟩ := List.getElem_of_mem ha
    have := HF.out i (by rw [← HZ.out.1]; exact hi)
    rw [List.getD_eq_getElem?_getD, List.getElem?_eq_getElem hi] at this
    exact norm_lt this
  have HKAY : Hid (∀ i, i < n → Kay (fs.getD i 0)) := fun i hi => kay_of hE (fun j hj => HF.out j (by rw [← HZ.out.1]; exact hj)) i (by rw [HZ.out.1]; exact hi)
  have HGL := Lib.hid hgl
  have HGV := Lib.hid hgv
  have HGB := Lib.hid hgb
  have HE := Lib.hid hE
  clear hgs hgl hgv hgb hE
  obtain ⟨E2, hE2⟩ : ∃ E, E = unpackE zs := ⟨_, rfl⟩
  obtain ⟨L, hL⟩ : ∃ L, L = unpackL zs := ⟨_, rfl⟩
  have HE2 := Lib.hid hE2
  have HSELF : Hid (∀ i, i < L.length → (FloatKind.f32.format.order (L.getD i 0) (L.getD i 0) != some .eq) = false) := by rw [hL]; exact unpackL_self zs
  have HL := Lib.hid hL
  clear h1 hm hE2 hL
  go_enter Tryz.func11, Tryz.ntmps11
  go_wp2_with fail
  refine Calls.mono (shortList_any _ _ _ _ hn) ?_
  rintro x w' ⟨rfl, rfl⟩
  rw [D1.out]
  go_wp2_with fail
  refine Calls.mono (floats_any A n c fs _ HZ.out HA.out HN.out) ?_
  rintro x w1 ⟨A3, c3, rfl, hI, hb⟩
  have HI := Lib.hid hI
  have HB1 := Lib.hid hb
  clear hI hb
  go_wp2_with fail
  refine Calls.mono (Pack_good A3 n c3 fs gs _ h4096 HI.out HE.out HGL.out HGV.out HF.out HGB.out) ?_
  rintro x w2 ⟨v2, rfl, hO, hb⟩
  have HO2 := Lib.hid hO
  have HB2 := Lib.hid (HB1.out.trans (Below.mono hb HB1.out.size))
  clear hO hb HB1 HI
  go_wp2_with fail
  refine Calls.mono (bytes_wide B m d zs _ (HBZ.out.keep HB2.out) HBB.out HMM.out) ?_
  rintro x w3 ⟨A4, c4, rfl, hI, hcc, hb⟩
  have HI := Lib.hid hI
  have HB3 := Lib.hid (HB2.out.trans (Below.mono hb HB2.out.size))
  have HO3 := Lib.hid (HO2.out.below hb)
  clear HO2
  clear hI hb HB2
  go_wp2_with fail
  refine Calls.mono (Unpack_any A4 m c4 zs _ HM.out hcc HI.out) ?_
  rw [← HE2.out, ← HL.out]
  rintro x w4 ⟨v4, rfl, hO, hb⟩
  have HB4 := Lib.hid (HB3.out.trans (Below.mono hb HB3.out.size))
  obtain ⟨A5, c5, rfl, hfl⟩ := hO.form
  have HF4 := Lib.hid hfl
  have HO4 := Lib.hid (HO3.out.below hb)
  clear HO3
  clear hO hb HB3 HI hfl hcc
  go_wp2_with fail
  refine Calls.mono (refCheckSamples_any A n c fs _ HN.out hnc (HZ.out.keep HB4.out)) ?_
  rintro x w5 ⟨rfl, hb⟩
  have HB5 := Lib.hid (HB4.out.trans (Below.mono hb HB4.out.size))
  have HF5 := Lib.hid (HF4.out.keep hb)
  rw [HE.out]
  have HO5 := Lib.hid (HO4.out.below hb)
  clear hb HB4 HF4 HO4
  go_wp2_with fail
  refine Calls.mono (refPack_good A n c fs gs _ h4096 (HZ.out.keep HB5.out) HKAY.out HGL.out HGV.out HGB.out) ?_
  rintro x w6 ⟨v6, rfl, hO, hb⟩
  have HB6 := Lib.hid (HB5.out.trans (Below.mono hb HB5.out.size))
  have HO6 := Lib.hid (HO5.out.below hb)
  have HR6 := Lib.hid hO
  have HF6 := Lib.hid (HF5.out.keep hb)
  clear hO hb HB5 HF5 HO5
  go_wp2_with fail
  refine Calls.mono (refUnpack_any B m d zs _ HM.out hmd (HBZ.out.keep HB6.out)) ?_
  rw [← HE2.out, ← HL.out]
  rintro x w7 ⟨v7, rfl, hO, hb⟩
  have HB7 := Lib.hid (HB6.out.trans (Below.mono hb HB6.out.size))
  obtain ⟨A8, c8, rfl, hfl⟩ := hO.form
  have HF8 := Lib.hid hfl
  have HF7 := Lib.hid (HF6.out.keep hb)
  have HO7 := Lib.hid (HO6.out.below hb)
  have HR7 := Lib.hid (HR6.out.below hb)
  clear hO hb HB6 HF6 hfl HO6 HR6
  have hpos := packL_pos gs
  rcases HO7.out.form with ⟨_, h0⟩ | ⟨g, cap, rfl, _, _, _, hc1, _⟩
  · rw [h0] at hpos; simp at hpos
  rcases HR7.out.form with ⟨_, h0⟩ | ⟨g', cap', rfl, _, _, _, hc2, _⟩
  · rw [h0] at hpos; simp at hpos
  have C1 := Lib.hid hc1
  have C2 := Lib.hid hc2
  obtain ⟨K, hK⟩ : ∃ K, K = (packL gs).length := ⟨_, rfl⟩
  have HK := Lib.hid hK
  rw [← hK] at C1 C2 ⊢
  clear hpos hc1 hc2 hK HO7 HR7
  go_wp2_with fail
  refine Calls.mono (sameBytes_eq g g' K cap cap' (packL gs) _ HK.out.symm C1.out C2.out) ?_
  rintro x w8 ⟨rfl, hb⟩
  have HB8 := Lib.hid (HB7.out.trans (Below.mono hb HB7.out.size))
  have HX := Lib.hid (HF7.out.keep hb)
  have HY := Lib.hid (HF8.out.keep hb)
  have HSF := Lib.hid HSELF.out
  have hLL : L.length ≤ 140737488351232 := by
    rw [HL.out]
    exact Nat.le_trans (unpackL_len zs) (by rw [HBZ.out.1]; have := HMM.out; omega)
  clear hb HB7 HF7 HF8
  go_wp2_with fail
  refine Calls.mono (sameSamples_eq A5 A8 L.length c5 c8 L _ hLL HX.out HY.out HSF.out) ?_
  rintro x w9 ⟨rfl, q9, rfl⟩
  have HB10 := Lib.hid (below_drewN' HB8.out q9)
  go_wp2_with fail
  refine Calls.mono (awake_any _ (HS.out.keep HB10.out) (HT.out.keep HB10.out)) ?_
  rintro x w9 ⟨rfl, hb⟩
  have HB9 := Lib.hid (HB10.out.trans (Below.mono hb HB10.out.size))
  clear hb
  go_wp2
  go_ret
  exact ⟨rfl, HB9.out⟩

set_option maxHeartbeats 4000000 in
set_option maxRecDepth 100000 in
theorem streams_small_bad (A B : Option Addr) (n c m d : Nat) (fs : List Nat) (zs : List Int) (w : World) (hz : FlAt w A n fs) (hf : ∀ i, i < n → fs.getD i 0 < 4294967296) (hA : A = none → c = 0) (hnc : n ≤ c) (hn : n ≤ 140737488351232) (hb : BytesAt w B m zs) (hB : B = none → d = 0) (hmd : m ≤ d) (hst : Steps w) (ht : Tab w) (h1 : n ≤ 40 ∨ n = 4097) (hm : m ≤ 300) (hE : checkSamplesE fs ≠ 0) :
    Calls Tryz.prog 11 #[.slice A n c, .slice B m d] w fun x w' => x = .returned (.bool true) ∧ Below w.heap.size w w' := by
  have HZ := Lib.hid hz
  have HF := Lib.hid hf
  have HBZ := Lib.hid hb
  have HS := Lib.hid hst
  have HT := Lib.hid ht
  have HA := Lib.hid hA
  have HBB := Lib.hid hB
  clear hz hf hb hst ht hA hB
  have D1 := Lib.hid (decide_eq_true h1)
  have HN : Hid (n ≤ 100000) := by show _ ≤ _; omega
  have HM : Hid (m ≤ 300 ∨ 400000 < m) := by show _ ∨ _; omega
  have HMM : Hid (m ≤ 1000000) := by show _ ≤ _; omega
  have hm1 : decide ((300 : Int) < (m : Int)) = false := by simp; omega
  obtain ⟨E1, hE1⟩ : ∃ E, E = checkSamplesE fs := ⟨_, rfl⟩
  rw [← hE1] at hE
  have he0 : (E1 == 0) = false := by simp [hE]
  have HE := Lib.hid hE1
  have HE0 := Lib.hid hE
  clear hE1 hE
  obtain ⟨E2, hE2⟩ : ∃ E, E = unpackE zs := ⟨_, rfl⟩
  obtain ⟨L, hL⟩ : ∃ L, L = unpackL zs := ⟨_, rfl⟩
  have HE2 := Lib.hid hE2
  have HSELF : Hid (∀ i, i < L.length → (FloatKind.f32.format.order (L.getD i 0) (L.getD i 0) != some .eq) = false) := by rw [hL]; exact unpackL_self zs
  have HL := Lib.hid hL
  clear h1 hm hE2 hL
  go_enter Tryz.func11, Tryz.ntmps11
  go_wp2_with fail
  refine Calls.mono (shortList_any _ _ _ _ hn) ?_
  rintro x w' ⟨rfl, rfl⟩
  rw [D1.out]
  go_wp2_with fail
  refine Calls.mono (floats_any A n c fs _ HZ.out HA.out HN.out) ?_
  rintro x w1 ⟨A3, c3, rfl, hI, hb⟩
  have HI := Lib.hid hI
  have HB1 := Lib.hid hb
  clear hI hb
  go_wp2_with fail
  refine Calls.mono (Pack_bad A3 n c3 fs E1 _ HN.out HI.out HE.out.symm HE0.out) ?_
  rintro x w2 ⟨rfl, hb⟩
  have HB2 := Lib.hid (HB1.out.trans (Below.mono hb HB1.out.size))
  clear hb HB1 HI
  go_wp2_with fail
  refine Calls.mono (bytes_wide B m d zs _ (HBZ.out.keep HB2.out) HBB.out HMM.out) ?_
  rintro x w3 ⟨A4, c4, rfl, hI, hcc, hb⟩
  have HI := Lib.hid hI
  have HB3 := Lib.hid (HB2.out.trans (Below.mono hb HB2.out.size))
  clear hI hb HB2
  go_wp2_with fail
  refine Calls.mono (Unpack_any A4 m c4 zs _ HM.out hcc HI.out) ?_
  rw [← HE2.out, ← HL.out]
  rintro x w4 ⟨v4, rfl, hO, hb⟩
  have HB4 := Lib.hid (HB3.out.trans (Below.mono hb HB3.out.size))
  obtain ⟨A5, c5, rfl, hfl⟩ := hO.form
  have HF4 := Lib.hid hfl
  clear hO hb HB3 HI hfl hcc
  go_wp2_with fail
  refine Calls.mono (refCheckSamples_any A n c fs _ HN.out hnc (HZ.out.keep HB4.out)) ?_
  rintro x w5 ⟨rfl, hb⟩
  have HB5 := Lib.hid (HB4.out.trans (Below.mono hb HB4.out.size))
  have HF5 := Lib.hid (HF4.out.keep hb)
  rw [← HE.out]
  clear hb HB4 HF4
  go_wp2_with fail
  refine Calls.mono (refUnpack_any B m d zs _ HM.out hmd (HBZ.out.keep HB5.out)) ?_
  rw [← HE2.out, ← HL.out]
  rintro x w7 ⟨v7, rfl, hO, hb⟩
  have HB7 := Lib.hid (HB5.out.trans (Below.mono hb HB5.out.size))
  obtain ⟨A8, c8, rfl, hfl⟩ := hO.form
  have HF8 := Lib.hid hfl
  have HF7 := Lib.hid (HF5.out.keep hb)
  clear hO hb HB5 HF5 hfl
  go_wp2_with fail
  refine Calls.mono (sameBytes_nil _) ?_
  rintro x w8 ⟨rfl, hb⟩
  have HB8 := Lib.hid (HB7.out.trans (Below.mono hb HB7.out.size))
  have HX := Lib.hid (HF7.out.keep hb)
  have HY := Lib.hid (HF8.out.keep hb)
  have HSF := Lib.hid HSELF.out
  have hLL : L.length ≤ 140737488351232 := by
    rw [HL.out]
    exact Nat.le_trans (unpackL_len zs) (by rw [HBZ.out.1]; have := HMM.out; omega)
  clear hb HB7 HF7 HF8
  go_wp2_with fail
  refine Calls.mono (sameSamples_eq A5 A8 L.length c5 c8 L _ hLL HX.out HY.out HSF.out) ?_
  rintro x w9 ⟨rfl, q9, rfl⟩
  have HB10 := Lib.hid (below_drewN' HB8.out q9)
  go_wp2_with fail
  refine Calls.mono (awake_any _ (HS.out.keep HB10.out) (HT.out.keep HB10.out)) ?_
  rintro x w9 ⟨rfl, hb⟩
  have HB9 := Lib.hid (HB10.out.trans (Below.mono hb HB10.out.size))
  clear hb
  go_wp2
  go_ret
  exact ⟨rfl, HB9.out⟩

set_option maxHeartbeats 4000000 in
set_option maxRecDepth 100000 in
theorem streams_long_good (A B : Option Addr) (n c m d : Nat) (fs : List Nat) (zs : List Int) (w : World) (hz : FlAt w A n fs) (hf : ∀ i, i < n → fs.getD i 0 < 4294967296) (hA : A = none → c = 0) (hnc : n ≤ c) (hn : n ≤ 140737488351232) (hb : BytesAt w B m zs) (hB : B = none → d = 0) (hmd : m ≤ d) (hst : Steps w) (ht : Tab w) (h1 : n ≤ 40 ∨ n = 4097) (hm : m = 400001) (hE : checkSamplesE fs = 0) :
    Calls Tryz.prog 11 #[.slice A n c, .slice B m d] w fun x w' => x = .returned (.bool true) ∧ Below w.heap.size w w' := by
  have HZ := Lib.hid hz
  have HF := Lib.hid hf
  have HBZ := Lib.hid hb
  have HS := Lib.hid hst
  have HT := Lib.hid ht
  have HA := Lib.hid hA
  have HBB := Lib.hid hB
  clear hz hf hb hst ht hA hB
  have D1 := Lib.hid (decide_eq_true h1)
  have HN : Hid (n ≤ 100000) := by show _ ≤ _; omega
  have HM : Hid (m ≤ 300 ∨ 400000 < m) := by show _ ∨ _; omega
  have HMM : Hid (m ≤ 1000000) := by show _ ≤ _; omega
  have hm1 : decide ((300 : Int) < (m : Int)) = true := by simp; omega
  have hm2 : ((m : Int) != 400001) = false := by simp; omega
  have h4096 : n ≤ 4096 := Classical.byContradiction fun h => by
    have := checkSamplesE_many fs (by rw [HZ.out.1]; omega)
    rw [this] at hE; cases hE
  obtain ⟨gs, hgs⟩ : ∃ gs, gs = fs.map norm := ⟨_, rfl⟩
  have hgl : gs.length = n := by rw [hgs, List.length_map, HZ.out.1]
  have hgv : ∀ i, i < n → gs.getD i 0 = norm (fs.getD i 0) := fun i hi => by
    rw [hgs]
    simp [List.getD_eq_getElem?_getD, List.getElem?_map, List.getElem?_eq_getElem (show i < fs.length by rw [HZ.out.1]; exact hi)]
  have hgb : ∀ b ∈ gs, b < 4294967296 := fun b hb => by
    rw [hgs] at hb
    obtain ⟨a, ha, rfl⟩ := List.mem_map.1 hb
    obtain ⟨i, hi, rfl⟩ := List.getElem_of_mem ha
    have := HF.out i (by rw [← HZ.out.1]; exact hi)
    rw [List.getD_eq_getElem?_getD, List.getElem?_eq_getElem hi] at this
    exact norm_lt this
  have HKAY : Hid (∀ i, i < n → Kay (fs.getD i 0)) := fun i hi => kay_of hE (fun j hj => HF.out j (by rw [← HZ.out.1]; exact hj)) i (by rw [HZ.out.1]; exact hi)
  have HGL := Lib.hid hgl
  have HGV := Lib.hid hgv
  have HGB := Lib.hid hgb
  have HE := Lib.hid hE
  clear hgs hgl hgv hgb hE
  obtain ⟨E2, hE2⟩ : ∃ E, E = unpackE zs := ⟨_, rfl⟩
  obtain ⟨L, hL⟩ : ∃ L, L = unpackL zs := ⟨_, rfl⟩
  have HE2 := Lib.hid hE2
  have HSELF : Hid (∀ i, i < L.length → (FloatKind.f32.format.order (L.getD i 0) (L.getD i 0) != some .eq) = false) := by rw [hL]; exact unpackL_self zs
  have HL := Lib.hid hL
  clear h1 hm hE2 hL
  go_enter Tryz.func11, Tryz.ntmps11
  go_wp2_with fail
  refine Calls.mono (shortList_any _ _ _ _ hn) ?_
  rintro x w' ⟨rfl, rfl⟩
  rw [D1.out]
  go_wp2_with fail
  refine Calls.mono (floats_any A n c fs _ HZ.out HA.out HN.out) ?_
  rintro x w1 ⟨A3, c3, rfl, hI, hb⟩
  have HI := Lib.hid hI
  have HB1 := Lib.hid hb
  clear hI hb
  go_wp2_with fail
  refine Calls.mono (Pack_good A3 n c3 fs gs _ h4096 HI.out HE.out HGL.out HGV.out HF.out HGB.out) ?_
  rintro x w2 ⟨v2, rfl, hO, hb⟩
  have HO2 := Lib.hid hO
  have HB2 := Lib.hid (HB1.out.trans (Below.mono hb HB1.out.size))
  clear hO hb HB1 HI
  go_wp2_with fail
  refine Calls.mono (bytes_wide B m d zs _ (HBZ.out.keep HB2.out) HBB.out HMM.out) ?_
  rintro x w3 ⟨A4, c4, rfl, hI, hcc, hb⟩
  have HI := Lib.hid hI
  have HB3 := Lib.hid (HB2.out.trans (Below.mono hb HB2.out.size))
  have HO3 := Lib.hid (HO2.out.below hb)
  clear HO2
  clear hI hb HB2
  go_wp2_with fail
  refine Calls.mono (Unpack_any A4 m c4 zs _ HM.out hcc HI.out) ?_
  rw [← HE2.out, ← HL.out]
  rintro x w4 ⟨v4, rfl, hO, hb⟩
  have HB4 := Lib.hid (HB3.out.trans (Below.mono hb HB3.out.size))
  obtain ⟨A5, c5, rfl, hfl⟩ := hO.form
  have HF4 := Lib.hid hfl
  have HO4 := Lib.hid (HO3.out.below hb)
  clear HO3
  clear hO hb HB3 HI hfl hcc
  go_wp2_with fail
  refine Calls.mono (refCheckSamples_any A n c fs _ HN.out hnc (HZ.out.keep HB4.out)) ?_
  rintro x w5 ⟨rfl, hb⟩
  have HB5 := Lib.hid (HB4.out.trans (Below.mono hb HB4.out.size))
  have HF5 := Lib.hid (HF4.out.keep hb)
  rw [HE.out]
  have HO5 := Lib.hid (HO4.out.below hb)
  clear hb HB4 HF4 HO4
  go_wp2_with fail
  refine Calls.mono (refPack_good A n c fs gs _ h4096 (HZ.out.keep HB5.out) HKAY.out HGL.out HGV.out HGB.out) ?_
  rintro x w6 ⟨v6, rfl, hO, hb⟩
  have HB6 := Lib.hid (HB5.out.trans (Below.mono hb HB5.out.size))
  have HO6 := Lib.hid (HO5.out.below hb)
  have HR6 := Lib.hid hO
  have HF6 := Lib.hid (HF5.out.keep hb)
  clear hO hb HB5 HF5 HO5
  go_wp2_with fail
  refine Calls.mono (refUnpack_any B m d zs _ HM.out hmd (HBZ.out.keep HB6.out)) ?_
  rw [← HE2.out, ← HL.out]
  rintro x w7 ⟨v7, rfl, hO, hb⟩
  have HB7 := Lib.hid (HB6.out.trans (Below.mono hb HB6.out.size))
  obtain ⟨A8, c8, rfl, hfl⟩ := hO.form
  have HF8 := Lib.hid hfl
  have HF7 := Lib.hid (HF6.out.keep hb)
  have HO7 := Lib.hid (HO6.out.below hb)
  have HR7 := Lib.hid (HR6.out.below hb)
  clear hO hb HB6 HF6 hfl HO6 HR6
  have hpos := packL_pos gs
  rcases HO7.out.form with ⟨_, h0⟩ | ⟨g, cap, rfl, _, _, _, hc1, _⟩
  · rw [h0] at hpos; simp at hpos
  rcases HR7.out.form with ⟨_, h0⟩ | ⟨g', cap', rfl, _, _, _, hc2, _⟩
  · rw [h0] at hpos; simp at hpos
  have C1 := Lib.hid hc1
  have C2 := Lib.hid hc2
  obtain ⟨K, hK⟩ : ∃ K, K = (packL gs).length := ⟨_, rfl⟩
  have HK := Lib.hid hK
  rw [← hK] at C1 C2 ⊢
  clear hpos hc1 hc2 hK HO7 HR7
  go_wp2_with fail
  refine Calls.mono (sameBytes_eq g g' K cap cap' (packL gs) _ HK.out.symm C1.out C2.out) ?_
  rintro x w8 ⟨rfl, hb⟩
  have HB8 := Lib.hid (HB7.out.trans (Below.mono hb HB7.out.size))
  have HX := Lib.hid (HF7.out.keep hb)
  have HY := Lib.hid (HF8.out.keep hb)
  have HSF := Lib.hid HSELF.out
  have hLL : L.length ≤ 140737488351232 := by
    rw [HL.out]
    exact Nat.le_trans (unpackL_len zs) (by rw [HBZ.out.1]; have := HMM.out; omega)
  clear hb HB7 HF7 HF8
  go_wp2_with fail
  refine Calls.mono (sameSamples_eq A5 A8 L.length c5 c8 L _ hLL HX.out HY.out HSF.out) ?_
  rintro x w9 ⟨rfl, q9, rfl⟩
  have HB10 := Lib.hid (below_drewN' HB8.out q9)
  go_wp2_with fail
  refine Calls.mono (awake_any _ (HS.out.keep HB10.out) (HT.out.keep HB10.out)) ?_
  rintro x w9 ⟨rfl, hb⟩
  have HB9 := Lib.hid (HB10.out.trans (Below.mono hb HB10.out.size))
  clear hb
  go_wp2
  go_ret
  exact ⟨rfl, HB9.out⟩

set_option maxHeartbeats 4000000 in
set_option maxRecDepth 100000 in
theorem streams_long_bad (A B : Option Addr) (n c m d : Nat) (fs : List Nat) (zs : List Int) (w : World) (hz : FlAt w A n fs) (hf : ∀ i, i < n → fs.getD i 0 < 4294967296) (hA : A = none → c = 0) (hnc : n ≤ c) (hn : n ≤ 140737488351232) (hb : BytesAt w B m zs) (hB : B = none → d = 0) (hmd : m ≤ d) (hst : Steps w) (ht : Tab w) (h1 : n ≤ 40 ∨ n = 4097) (hm : m = 400001) (hE : checkSamplesE fs ≠ 0) :
    Calls Tryz.prog 11 #[.slice A n c, .slice B m d] w fun x w' => x = .returned (.bool true) ∧ Below w.heap.size w w' := by
  have HZ := Lib.hid hz
  have HF := Lib.hid hf
  have HBZ := Lib.hid hb
  have HS := Lib.hid hst
  have HT := Lib.hid ht
  have HA := Lib.hid hA
  have HBB := Lib.hid hB
  clear hz hf hb hst ht hA hB
  have D1 := Lib.hid (decide_eq_true h1)
  have HN : Hid (n ≤ 100000) := by show _ ≤ _; omega
  have HM : Hid (m ≤ 300 ∨ 400000 < m) := by show _ ∨ _; omega
  have HMM : Hid (m ≤ 1000000) := by show _ ≤ _; omega
  have hm1 : decide ((300 : Int) < (m : Int)) = true := by simp; omega
  have hm2 : ((m : Int) != 400001) = false := by simp; omega
  obtain ⟨E1, hE1⟩ : ∃ E, E = checkSamplesE fs := ⟨_, rfl⟩
  rw [← hE1] at hE
  have he0 : (E1 == 0) = false := by simp [hE]
  have HE := Lib.hid hE1
  have HE0 := Lib.hid hE
  clear hE1 hE
  obtain ⟨E2, hE2⟩ : ∃ E, E = unpackE zs := ⟨_, rfl⟩
  obtain ⟨L, hL⟩ : ∃ L, L = unpackL zs := ⟨_, rfl⟩
  have HE2 := Lib.hid hE2
  have HSELF : Hid (∀ i, i < L.length → (FloatKind.f32.format.order (L.getD i 0) (L.getD i 0) != some .eq) = false) := by rw [hL]; exact unpackL_self zs
  have HL := Lib.hid hL
  clear h1 hm hE2 hL
  go_enter Tryz.func11, Tryz.ntmps11
  go_wp2_with fail
  refine Calls.mono (shortList_any _ _ _ _ hn) ?_
  rintro x w' ⟨rfl, rfl⟩
  rw [D1.out]
  go_wp2_with fail
  refine Calls.mono (floats_any A n c fs _ HZ.out HA.out HN.out) ?_
  rintro x w1 ⟨A3, c3, rfl, hI, hb⟩
  have HI := Lib.hid hI
  have HB1 := Lib.hid hb
  clear hI hb
  go_wp2_with fail
  refine Calls.mono (Pack_bad A3 n c3 fs E1 _ HN.out HI.out HE.out.symm HE0.out) ?_
  rintro x w2 ⟨rfl, hb⟩
  have HB2 := Lib.hid (HB1.out.trans (Below.mono hb HB1.out.size))
  clear hb HB1 HI
  go_wp2_with fail
  refine Calls.mono (bytes_wide B m d zs _ (HBZ.out.keep HB2.out) HBB.out HMM.out) ?_
  rintro x w3 ⟨A4, c4, rfl, hI, hcc, hb⟩
  have HI := Lib.hid hI
  have HB3 := Lib.hid (HB2.out.trans (Below.mono hb HB2.out.size))
  clear hI hb HB2
  go_wp2_with fail
  refine Calls.mono (Unpack_any A4 m c4 zs _ HM.out hcc HI.out) ?_
  rw [← HE2.out, ← HL.out]
  rintro x w4 ⟨v4, rfl, hO, hb⟩
  have HB4 := Lib.hid (HB3.out.trans (Below.mono hb HB3.out.size))
  obtain ⟨A5, c5, rfl, hfl⟩ := hO.form
  have HF4 := Lib.hid hfl
  clear hO hb HB3 HI hfl hcc
  go_wp2_with fail
  refine Calls.mono (refCheckSamples_any A n c fs _ HN.out hnc (HZ.out.keep HB4.out)) ?_
  rintro x w5 ⟨rfl, hb⟩
  have HB5 := Lib.hid (HB4.out.trans (Below.mono hb HB4.out.size))
  have HF5 := Lib.hid (HF4.out.keep hb)
  rw [← HE.out]
  clear hb HB4 HF4
  go_wp2_with fail
  refine Calls.mono (refUnpack_any B m d zs _ HM.out hmd (HBZ.out.keep HB5.out)) ?_
  rw [← HE2.out, ← HL.out]
  rintro x w7 ⟨v7, rfl, hO, hb⟩
  have HB7 := Lib.hid (HB5.out.trans (Below.mono hb HB5.out.size))
  obtain ⟨A8, c8, rfl, hfl⟩ := hO.form
  have HF8 := Lib.hid hfl
  have HF7 := Lib.hid (HF5.out.keep hb)
  clear hO hb HB5 HF5 hfl
  go_wp2_with fail
  refine Calls.mono (sameBytes_nil _) ?_
  rintro x w8 ⟨rfl, hb⟩
  have HB8 := Lib.hid (HB7.out.trans (Below.mono hb HB7.out.size))
  have HX := Lib.hid (HF7.out.keep hb)
  have HY := Lib.hid (HF8.out.keep hb)
  have HSF := Lib.hid HSELF.out
  have hLL : L.length ≤ 140737488351232 := by
    rw [HL.out]
    exact Nat.le_trans (unpackL_len zs) (by rw [HBZ.out.1]; have := HMM.out; omega)
  clear hb HB7 HF7 HF8
  go_wp2_with fail
  refine Calls.mono (sameSamples_eq A5 A8 L.length c5 c8 L _ hLL HX.out HY.out HSF.out) ?_
  rintro x w9 ⟨rfl, q9, rfl⟩
  have HB10 := Lib.hid (below_drewN' HB8.out q9)
  go_wp2_with fail
  refine Calls.mono (awake_any _ (HS.out.keep HB10.out) (HT.out.keep HB10.out)) ?_
  rintro x w9 ⟨rfl, hb⟩
  have HB9 := Lib.hid (HB10.out.trans (Below.mono hb HB10.out.size))
  clear hb
  go_wp2
  go_ret
  exact ⟨rfl, HB9.out⟩

set_option maxHeartbeats 4000000 in
set_option maxRecDepth 100000 in
theorem streams_walk (A B : Option Addr) (n c m d : Nat) (fs : List Nat) (zs : List Int) (w : World) (hz : FlAt w A n fs) (hf : ∀ i, i < n → fs.getD i 0 < 4294967296) (hA : A = none → c = 0) (hnc : n ≤ c) (hn : n ≤ 140737488351232) (hb : BytesAt w B m zs) (hB : B = none → d = 0) (hmd : m ≤ d) (hst : Steps w) (ht : Tab w) :
    Calls Tryz.prog 11 #[.slice A n c, .slice B m d] w fun x w' => x = .returned (.bool true) ∧ Below w.heap.size w w' := by
  by_cases h1 : n ≤ 40 ∨ n = 4097
  · by_cases h2 : m ≤ 300
    · by_cases hE : checkSamplesE fs = 0
      · exact streams_small_good A B n c m d fs zs w hz hf hA hnc hn hb hB hmd hst ht h1 h2 hE
      · exact streams_small_bad A B n c m d fs zs w hz hf hA hnc hn hb hB hmd hst ht h1 h2 hE
    · by_cases h3 : m = 400001
      · by_cases hE : checkSamplesE fs = 0
        · exact streams_long_good A B n c m d fs zs w hz hf hA hnc hn hb hB hmd hst ht h1 h3 hE
        · exact streams_long_bad A B n c m d fs zs w hz hf hA hnc hn hb hB hmd hst ht h1 h3 hE
      · have HS := Lib.hid hst
        have HT := Lib.hid ht
        have D1 := Lib.hid (decide_eq_true h1)
        have HB6 := Lib.hid (Below.refl w.heap.size w)
        have hm1 : decide ((300 : Int) < (m : Int)) = true := by simp; omega
        have hm2 : ((m : Int) != 400001) = true := by simp; omega
        clear h1 h2 h3 hz hf hA hb hB hst ht
        go_enter Tryz.func11, Tryz.ntmps11
        go_wp2_with fail
        refine Calls.mono (shortList_any _ _ _ _ hn) ?_
        rintro x w' ⟨rfl, rfl⟩
        rw [D1.out]
        go_wp2_with fail
        refine Calls.mono (awake_any _ (HS.out.keep HB6.out) (HT.out.keep HB6.out)) ?_
        rintro x w9 ⟨rfl, hb⟩
        have HB9 := Lib.hid (HB6.out.trans (Below.mono hb HB6.out.size))
        clear hb
        go_wp2
        go_ret
        exact ⟨rfl, HB9.out⟩

  · have HS := Lib.hid hst
    have HT := Lib.hid ht
    have D1 := Lib.hid (decide_eq_false h1)
    have HB6 := Lib.hid (Below.refl w.heap.size w)
    clear h1 hz hf hA hb hB hst ht
    go_enter Tryz.func11, Tryz.ntmps11
    go_wp2_with fail
    refine Calls.mono (shortList_any _ _ _ _ hn) ?_
    rintro x w' ⟨rfl, rfl⟩
    rw [D1.out]
    go_wp2_with fail
    refine Calls.mono (awake_any _ (HS.out.keep HB6.out) (HT.out.keep HB6.out)) ?_
    rintro x w9 ⟨rfl, hb⟩
    have HB9 := Lib.hid (HB6.out.trans (Below.mono hb HB6.out.size))
    clear hb
    go_wp2
    go_ret
    exact ⟨rfl, HB9.out⟩

end Go.Proofs.YtoipafnlcchmbaaGreatDoor
