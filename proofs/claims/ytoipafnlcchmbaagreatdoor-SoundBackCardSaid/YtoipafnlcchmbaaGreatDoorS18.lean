/- SoundBack, walked. -/
import Derived.Test.YtoipafnlcchmbaaGreatDoorQPx
import Derived.Test.YtoipafnlcchmbaaGreatDoorS0
import Derived.Test.YtoipafnlcchmbaaGreatDoorS6
import Derived.Test.YtoipafnlcchmbaaGreatDoorQOt
import Derived.Test.YtoipafnlcchmbaaGreatDoorQH
namespace Go.Proofs.YtoipafnlcchmbaaGreatDoor
open Go.RowKit

theorem index8s (k : Nat) (hk : k < 8) (w0 w1 w2 w3 w4 w5 w6 w7 : Int) (W : World) :
    (Instr.index 81 (.agg #[.int .i64 w0, .int .i64 w1, .int .i64 w2, .int .i64 w3, .int .i64 w4, .int .i64 w5, .int .i64 w6, .int .i64 w7]) (.int .i64 (k : Int))).run Tryz.prog W = .ok (.int .i64 ([w0, w1, w2, w3, w4, w5, w6, w7].getD k 0)) W :=
  match k, hk with
  | 0, _ => by show _ = _; kernel_rfl
  | 1, _ => by show _ = _; kernel_rfl
  | 2, _ => by show _ = _; kernel_rfl
  | 3, _ => by show _ = _; kernel_rfl
  | 4, _ => by show _ = _; kernel_rfl
  | 5, _ => by show _ = _; kernel_rfl
  | 6, _ => by show _ = _; kernel_rfl
  | 7, _ => by show _ = _; kernel_rfl

def fillW (k : Nat) : Array Value := ((List.range 8).map fun i => Value.int .i64 (if i < k then 1000 else 0)).toArray
theorem fillW_set (k : Nat) (hk : k < 8) : (fillW k).setIfInBounds k (.int .i64 1000) = fillW (k + 1) :=
  match k, hk with
  | 0, _ => rfl
  | 1, _ => rfl
  | 2, _ => rfl
  | 3, _ => rfl
  | 4, _ => rfl
  | 5, _ => rfl
  | 6, _ => rfl
  | 7, _ => rfl
theorem fillW_at (k i : Nat) (hi : i < 8) : (fillW k)[i]? = some (.int .i64 (if i < k then 1000 else 0)) := by
  unfold fillW
  simp [hi]
theorem wgt_whole (x : Int) (_h : 0 ≤ x) : wgt x 1000 = x := by unfold wgt roundE; omega
theorem wgt_less (x v : Int) (h : 0 ≤ x) (h1 : 0 ≤ v) (h2 : v ≤ 1000) : 0 ≤ wgt x v ∧ wgt x v ≤ x := by
  have a1 : 0 ≤ x * v := Int.mul_nonneg h h1
  have a2 : x * v ≤ x * 1000 := Int.mul_le_mul_of_nonneg_left h2 h
  unfold wgt roundE
  omega

attribute [local go_sem] eq_same8
set_option maxHeartbeats 16000000 in
set_option maxRecDepth 100000 in
theorem back_walk (A : Option Addr) (n c : Nat) (xs : List Int) (s : ByteArray) (s0 s1 s2 s3 s4 s5 s6 s7 v0 v1 v2 v3 v4 v5 v6 v7 : Int) (w : World) (hx : IntsAt w A n xs) (hA : A = none → c = 0) (hn : n ≤ 140737488351232) (hss : s.size ≤ 140737488351232) (hst : Steps w) (ht : Tab w) :
    Calls Tryz.prog 16 #[.slice A n c, .string s, .agg #[.int .i64 s0, .int .i64 s1, .int .i64 s2, .int .i64 s3, .int .i64 s4, .int .i64 s5, .int .i64 s6, .int .i64 s7, .int .i64 v0, .int .i64 v1, .int .i64 v2, .int .i64 v3, .int .i64 v4, .int .i64 v5, .int .i64 v6, .int .i64 v7]] w fun x w' => x = .returned (.bool true) ∧ Below w.heap.size w w' := by
  have HX := Lib.hid hx
  have HS := Lib.hid hst
  have HT := Lib.hid ht
  have HA := Lib.hid hA
  clear hx hst ht hA
  obtain ⟨E, hE⟩ : ∃ S, S = checkEnergiesE xs := ⟨_, rfl⟩
  obtain ⟨CS, hCS⟩ : ∃ S, S = firstInE checkEnergyE [s0, s1, s2, s3, s4, s5, s6, s7] := ⟨_, rfl⟩
  obtain ⟨CW, hCW⟩ : ∃ S, S = firstInE checkFactorE [v0, v1, v2, v3, v4, v5, v6, v7] := ⟨_, rfl⟩
  have HE := Lib.hid hE
  have HCS := Lib.hid hCS
  have HCW := Lib.hid hCW
  clear hE hCS hCW
  by_cases h1 : 20 < n
  · have d1 : decide ((20 : Int) < (n : Int)) = true := by simp; omega
    go_enter Tryz.func16, Tryz.ntmps16
    go_upto_region 1 with fail
    obtain ⟨w0, hw0⟩ : ∃ X, X = w.alloc (.cells #[.int .i64 s0, .int .i64 s1, .int .i64 s2, .int .i64 s3, .int .i64 s4, .int .i64 s5, .int .i64 s6, .int .i64 s7, .int .i64 v0, .int .i64 v1, .int .i64 v2, .int .i64 v3, .int .i64 v4, .int .i64 v5, .int .i64 v6, .int .i64 v7] 187) := ⟨_, rfl⟩
    rw [← hw0]
    obtain ⟨hk, hb⟩ := box_facts _ _ w0 hw0
    have HB0 := Lib.hid hb
    have HX0 := Lib.hid hk
    obtain ⟨gx, hg⟩ : ∃ g, g = w.heap.size := ⟨_, rfl⟩
    rw [← hg] at HX0 ⊢
    have HGX : Hid (w.heap.size ≤ gx) := by show _ ≤ _; omega
    clear hb hk hw0 hg
    have HBB := HB0
    go_wp2_with fail
    refine Calls.mono (awake_any _ (HS.out.keep HBB.out) (HT.out.keep HBB.out)) ?_
    rintro x w9 ⟨rfl, hb⟩
    have HB9 := Lib.hid (HBB.out.trans (Below.mono hb HBB.out.size))
    clear hb
    go_wp2
    go_ret
    exact ⟨rfl, HB9.out⟩
  have d1 : decide ((20 : Int) < (n : Int)) = false := by simp; omega
  by_cases h2 : E = 0
  case neg =>
    have d2 : (E != 0) = true := by simp [h2]
    clear h2
    go_enter Tryz.func16, Tryz.ntmps16
    go_upto_region 1 with fail
    obtain ⟨w0, hw0⟩ : ∃ X, X = w.alloc (.cells #[.int .i64 s0, .int .i64 s1, .int .i64 s2, .int .i64 s3, .int .i64 s4, .int .i64 s5, .int .i64 s6, .int .i64 s7, .int .i64 v0, .int .i64 v1, .int .i64 v2, .int .i64 v3, .int .i64 v4, .int .i64 v5, .int .i64 v6, .int .i64 v7] 187) := ⟨_, rfl⟩
    rw [← hw0]
    obtain ⟨hk, hb⟩ := box_facts _ _ w0 hw0
    have HB0 := Lib.hid hb
    have HX0 := Lib.hid hk
    obtain ⟨gx, hg⟩ : ∃ g, g = w.heap.size := ⟨_, rfl⟩
    rw [← hg] at HX0 ⊢
    have HGX : Hid (w.heap.size ≤ gx) := by show _ ≤ _; omega
    clear hb hk hw0 hg
    go_wp2_with fail
    refine Calls.mono (refCheckEnergies_any _ _ _ _ _ hn (HX.out.keep HB0.out)) ?_
    rintro x w' ⟨rfl, rfl⟩
    rw [← HE.out]
    have HBB := HB0
    go_wp2_with fail
    refine Calls.mono (awake_any _ (HS.out.keep HBB.out) (HT.out.keep HBB.out)) ?_
    rintro x w9 ⟨rfl, hb⟩
    have HB9 := Lib.hid (HBB.out.trans (Below.mono hb HBB.out.size))
    clear hb
    go_wp2
    go_ret
    exact ⟨rfl, HB9.out⟩
  subst h2
  by_cases h3 : 300 < s.size
  · have d3 : decide ((300 : Int) < (s.size : Int)) = true := by simp; omega
    go_enter Tryz.func16, Tryz.ntmps16
    go_upto_region 1 with fail
    obtain ⟨w0, hw0⟩ : ∃ X, X = w.alloc (.cells #[.int .i64 s0, .int .i64 s1, .int .i64 s2, .int .i64 s3, .int .i64 s4, .int .i64 s5, .int .i64 s6, .int .i64 s7, .int .i64 v0, .int .i64 v1, .int .i64 v2, .int .i64 v3, .int .i64 v4, .int .i64 v5, .int .i64 v6, .int .i64 v7] 187) := ⟨_, rfl⟩
    rw [← hw0]
    obtain ⟨hk, hb⟩ := box_facts _ _ w0 hw0
    have HB0 := Lib.hid hb
    have HX0 := Lib.hid hk
    obtain ⟨gx, hg⟩ : ∃ g, g = w.heap.size := ⟨_, rfl⟩
    rw [← hg] at HX0 ⊢
    have HGX : Hid (w.heap.size ≤ gx) := by show _ ≤ _; omega
    clear hb hk hw0 hg
    go_wp2_with fail
    refine Calls.mono (refCheckEnergies_any _ _ _ _ _ hn (HX.out.keep HB0.out)) ?_
    rintro x w' ⟨rfl, rfl⟩
    rw [← HE.out]
    have HBB := HB0
    go_wp2_with fail
    refine Calls.mono (awake_any _ (HS.out.keep HBB.out) (HT.out.keep HBB.out)) ?_
    rintro x w9 ⟨rfl, hb⟩
    have HB9 := Lib.hid (HBB.out.trans (Below.mono hb HBB.out.size))
    clear hb
    go_wp2
    go_ret
    exact ⟨rfl, HB9.out⟩
  have d3 : decide ((300 : Int) < (s.size : Int)) = false := by simp; omega
  by_cases h4 : CS = 0
  case neg =>
    have d4 : (CS != 0) = true := by simp [h4]
    clear h4
    go_enter Tryz.func16, Tryz.ntmps16
    go_upto_region 1 with fail
    obtain ⟨w0, hw0⟩ : ∃ X, X = w.alloc (.cells #[.int .i64 s0, .int .i64 s1, .int .i64 s2, .int .i64 s3, .int .i64 s4, .int .i64 s5, .int .i64 s6, .int .i64 s7, .int .i64 v0, .int .i64 v1, .int .i64 v2, .int .i64 v3, .int .i64 v4, .int .i64 v5, .int .i64 v6, .int .i64 v7] 187) := ⟨_, rfl⟩
    rw [← hw0]
    obtain ⟨hk, hb⟩ := box_facts _ _ w0 hw0
    have HB0 := Lib.hid hb
    have HX0 := Lib.hid hk
    obtain ⟨gx, hg⟩ : ∃ g, g = w.heap.size := ⟨_, rfl⟩
    rw [← hg] at HX0 ⊢
    have HGX : Hid (w.heap.size ≤ gx) := by show _ ≤ _; omega
    clear hb hk hw0 hg
    go_wp2_with fail
    refine Calls.mono (refCheckEnergies_any _ _ _ _ _ hn (HX.out.keep HB0.out)) ?_
    rintro x w' ⟨rfl, rfl⟩
    rw [← HE.out]
    have qc0 := HX0.out.cell 0; have qc1 := HX0.out.cell 1; have qc2 := HX0.out.cell 2; have qc3 := HX0.out.cell 3; have qc4 := HX0.out.cell 4; have qc5 := HX0.out.cell 5; have qc6 := HX0.out.cell 6; have qc7 := HX0.out.cell 7
    simp only [List.getElem?_toArray, List.getElem?_cons_zero, List.getElem?_cons_succ] at qc0 qc1 qc2 qc3 qc4 qc5 qc6 qc7
    go_wp2_with fail
    refine Calls.mono (refCheckSpectrum_any s0 s1 s2 s3 s4 s5 s6 s7 _) ?_
    rintro x w1 ⟨rfl, hb⟩
    rw [← HCS.out]
    have HB1 := Lib.hid (HB0.out.trans (Below.mono hb HB0.out.size))
    have HX1 := Lib.hid (HX0.out.below hb)
    clear hb
    clear qc0 qc1 qc2 qc3 qc4 qc5 qc6 qc7
    have HBB := HB1
    go_wp2_with fail
    refine Calls.mono (awake_any _ (HS.out.keep HBB.out) (HT.out.keep HBB.out)) ?_
    rintro x w9 ⟨rfl, hb⟩
    have HB9 := Lib.hid (HBB.out.trans (Below.mono hb HBB.out.size))
    clear hb
    go_wp2
    go_ret
    exact ⟨rfl, HB9.out⟩
  subst h4
  by_cases h5 : CW = 0
  case neg =>
    have d5 : (CW != 0) = true := by simp [h5]
    clear h5
    go_enter Tryz.func16, Tryz.ntmps16
    go_upto_region 1 with fail
    obtain ⟨w0, hw0⟩ : ∃ X, X = w.alloc (.cells #[.int .i64 s0, .int .i64 s1, .int .i64 s2, .int .i64 s3, .int .i64 s4, .int .i64 s5, .int .i64 s6, .int .i64 s7, .int .i64 v0, .int .i64 v1, .int .i64 v2, .int .i64 v3, .int .i64 v4, .int .i64 v5, .int .i64 v6, .int .i64 v7] 187) := ⟨_, rfl⟩
    rw [← hw0]
    obtain ⟨hk, hb⟩ := box_facts _ _ w0 hw0
    have HB0 := Lib.hid hb
    have HX0 := Lib.hid hk
    obtain ⟨gx, hg⟩ : ∃ g, g = w.heap.size := ⟨_, rfl⟩
    rw [← hg] at HX0 ⊢
    have HGX : Hid (w.heap.size ≤ gx) := by show _ ≤ _; omega
    clear hb hk hw0 hg
    go_wp2_with fail
    refine Calls.mono (refCheckEnergies_any _ _ _ _ _ hn (HX.out.keep HB0.out)) ?_
    rintro x w' ⟨rfl, rfl⟩
    rw [← HE.out]
    have qc0 := HX0.out.cell 0; have qc1 := HX0.out.cell 1; have qc2 := HX0.out.cell 2; have qc3 := HX0.out.cell 3; have qc4 := HX0.out.cell 4; have qc5 := HX0.out.cell 5; have qc6 := HX0.out.cell 6; have qc7 := HX0.out.cell 7
    simp only [List.getElem?_toArray, List.getElem?_cons_zero, List.getElem?_cons_succ] at qc0 qc1 qc2 qc3 qc4 qc5 qc6 qc7
    go_wp2_with fail
    refine Calls.mono (refCheckSpectrum_any s0 s1 s2 s3 s4 s5 s6 s7 _) ?_
    rintro x w1 ⟨rfl, hb⟩
    rw [← HCS.out]
    have HB1 := Lib.hid (HB0.out.trans (Below.mono hb HB0.out.size))
    have HX1 := Lib.hid (HX0.out.below hb)
    clear hb
    clear qc0 qc1 qc2 qc3 qc4 qc5 qc6 qc7
    have qc8 := HX1.out.cell 8; have qc9 := HX1.out.cell 9; have qc10 := HX1.out.cell 10; have qc11 := HX1.out.cell 11; have qc12 := HX1.out.cell 12; have qc13 := HX1.out.cell 13; have qc14 := HX1.out.cell 14; have qc15 := HX1.out.cell 15
    simp only [List.getElem?_toArray, List.getElem?_cons_zero, List.getElem?_cons_succ] at qc8 qc9 qc10 qc11 qc12 qc13 qc14 qc15
    go_wp2_with fail
    refine Calls.mono (refCheckWeights_any v0 v1 v2 v3 v4 v5 v6 v7 _) ?_
    rintro x w2 ⟨rfl, hb⟩
    rw [← HCW.out]
    have HB2 := Lib.hid (HB1.out.trans (Below.mono hb HB1.out.size))
    have HX2 := Lib.hid (HX1.out.below hb)
    clear hb
    clear qc8 qc9 qc10 qc11 qc12 qc13 qc14 qc15
    have HBB := HB2
    go_wp2_with fail
    refine Calls.mono (awake_any _ (HS.out.keep HBB.out) (HT.out.keep HBB.out)) ?_
    rintro x w9 ⟨rfl, hb⟩
    have HB9 := Lib.hid (HBB.out.trans (Below.mono hb HBB.out.size))
    clear hb
    go_wp2
    go_ret
    exact ⟨rfl, HB9.out⟩
  subst h5
  have HE0 : Hid (checkEnergiesE xs = 0) := HE.out.symm
  have hv : ValidE xs := validE_of HE0.out
  have HVD := Lib.hid hv
  have hxl : xs.length = n := HX.out.1
  have HXL := Lib.hid hxl
  have hn20 : n ≤ 20 := by omega
  have hz0 : ∀ z ∈ xs, 0 ≤ z := fun z hz => (validE_nonneg hv z hz).1
  obtain ⟨T, hT⟩ : ∃ T, T = fullB xs := ⟨_, rfl⟩
  have hTs : T.size ≤ 600 := by rw [hT]; exact fullB_len xs hv (by omega)
  have PV : Hid (printVal xs = T) := by show _ = _; unfold printVal; rw [if_pos HE0.out, hT]; exact if_neg (by rw [← hT]; omega)
  have PE : Hid (printErr xs = 0) := by show _ = _; unfold printErr; rw [if_pos HE0.out]; exact if_neg (by rw [← hT]; omega)
  have HPT : ∀ W, Hid (Calls Tryz.prog 93 #[.string T] W fun e w' => ∃ A c, e = .returned (.tuple #[.slice A n c, .int .i64 0, .int .i64 0]) ∧ IntsAt w' A n xs ∧ Below W.heap.size W w') := fun W => by
    have h := Parse_any T W (by omega)
    unfold ParsePost at h
    rw [hT, back_parse xs hv HE0.out (by omega), ← hT] at h
    refine h.mono ?_
    rintro e w' ⟨A, c, he, hI, _, hb⟩
    refine ⟨A, c, ?_, ?_, hb⟩
    · rw [he]; show _ = _; rw [hxl]; rfl
    · show IntsAt _ _ _ _
      rw [← hxl]; exact hI
  have HSPT : ∀ W, Hid (Calls Tryz.prog 102 #[.string T, .int .u8 10] W fun e w' => ∃ v, e = .returned v ∧ OwnS w' W.heap.size v (linesV T) ∧ Below W.heap.size W w') := fun W => by
    have h := refSplit_any 10 T W (by omega)
    rw [show ((10 : UInt8).toNat : Int) = 10 from rfl] at h
    exact Lib.hid h
  have HLV : Hid ((linesV T).length = n + 2) := by show _ = _; rw [hT, back_lines xs hz0, hxl]
  have hT1 : 1 ≤ T.size := by
    have h1 := linesV_len T
    have h2 := sepL_le 10 0 T
    have h3 := HLV.out
    have e : (sepL 10 0 T).length = (linesV T).length := rfl
    omega
  obtain ⟨m, hm⟩ : ∃ m, T.size = m + 1 := ⟨T.size - 1, by omega⟩
  have hm6 : m ≤ 600 := by omega
  obtain ⟨T1, hT1e⟩ : ∃ T1, T1 = T.extract 0 m := ⟨_, rfl⟩
  have hT1s : T1.size ≤ 600 := by
    rw [hT1e]
    have e : (T.extract 0 m).size = (T.extract 0 m).data.toList.length := rfl
    rw [e, Lib.extract_from_zero, List.length_take]; omega
  have HPT1 : ∀ W, Hid (Calls Tryz.prog 93 #[.string T1] W fun e w' => ∃ A c, e = .returned (.tuple #[.slice A 0 c, .int .i64 n, .int .i64 25]) ∧ Below W.heap.size W w') := fun W => by
    have h := Parse_any T1 W (by omega)
    unfold ParsePost at h
    rw [back_cut xs hv (by omega) T1 (by
      rw [hT1e, Lib.extract_from_zero, ← hT, List.dropLast_eq_take]
      have e : T.data.toList.length = T.size := rfl
      rw [e, hm]; rfl)] at h
    refine h.mono ?_
    rintro e w' ⟨A, c, he, hI, _, hb⟩
    refine ⟨A, c, ?_, hb⟩
    rw [he]; show _ = _; rw [hxl]; rfl
  have HLESS : Hid (0 < n → ∃ (x : ByteArray) (k : Nat), (linesV T)[n]? = some x ∧ x.size + k = m ∧ ∀ T2 W, T2 = T.extract 0 k → Calls Tryz.prog 93 #[.string T2] W fun e w' => ∃ A c, e = .returned (.tuple #[.slice A 0 c, .int .i64 n, .int .i64 2]) ∧ Below W.heap.size W w') := fun hp => by
    obtain ⟨x, hx, hxs, hpar⟩ := back_less xs hv (by omega) (by omega)
    rw [← hT, hxl] at hx
    rw [← hT] at hxs hpar
    refine ⟨x, m - x.size, hx, by omega, fun T2 W hT2 => ?_⟩
    have hs2 : T2.size ≤ 600 := by
      rw [hT2]
      have e : (T.extract 0 (m - x.size)).size = (T.extract 0 (m - x.size)).data.toList.length := rfl
      rw [e, Lib.extract_from_zero, List.length_take]; omega
    have h := Parse_any T2 W (by omega)
    unfold ParsePost at h
    rw [hpar T2 (by
      rw [hT2, Lib.extract_from_zero, hm]; rfl)] at h
    refine h.mono ?_
    rintro e w' ⟨A, c, he, hI, _, hb⟩
    refine ⟨A, c, ?_, hb⟩
    rw [he]; show _ = _; rw [hxl]; rfl
  have HPS := fun W => Lib.hid (Parse_any s W hss)
  unfold ParsePost at HPS
  have hbp := back_print s
  obtain ⟨R, hR⟩ : ∃ R, R = parseR s := ⟨_, rfl⟩
  rw [← hR] at HPS hbp
  obtain ⟨zl, zi, ze⟩ := R
  dsimp only at HPS hbp
  obtain ⟨zn, hzn⟩ : ∃ zn, zn = zl.length := ⟨_, rfl⟩
  rw [← hzn] at HPS
  have HZE : Hid (ze = 0 → printVal zl = s ∧ printErr zl = 0) := fun h => by
    obtain ⟨g1, g2, g3, g4⟩ := hbp h (by omega)
    unfold printVal printErr
    rw [if_pos g1, if_pos g1, g2]
    exact ⟨g3, g4⟩
  have HZN : Hid (zn ≤ 140737488351232) := by
    show _ ≤ _
    have h3 := countR_len energiesL energyL s
    have h4 := parseW_count energiesL energyL checkEnergiesE s.data.toList _ rfl
    rw [show parseW energiesL energyL checkEnergiesE s.data.toList = (zl, zi, ze) from hR.symm] at h4
    have h5 : zl.length ≤ 5000 := by
      by_cases g1 : (countR energiesL energyL s.data.toList).2.2 ≠ 0
      · rw [if_pos g1] at h4; rw [← h4] at h3; exact h3
      · rw [if_neg g1] at h4
        by_cases g2 : checkEnergiesE (countR energiesL energyL s.data.toList).1 ≠ 0
        · rw [if_pos g2] at h4; rw [(Prod.mk.inj h4).1]; simp
        · rw [if_neg g2] at h4; rw [(Prod.mk.inj h4).1]; exact h3
    omega
  have hsp : (0 ≤ s0 ∧ s0 ≤ 10000000000000) ∧ (0 ≤ s1 ∧ s1 ≤ 10000000000000) ∧ (0 ≤ s2 ∧ s2 ≤ 10000000000000) ∧ (0 ≤ s3 ∧ s3 ≤ 10000000000000) ∧ (0 ≤ s4 ∧ s4 ≤ 10000000000000) ∧ (0 ≤ s5 ∧ s5 ≤ 10000000000000) ∧ (0 ≤ s6 ∧ s6 ≤ 10000000000000) ∧ (0 ≤ s7 ∧ s7 ≤ 10000000000000) := by
    have h := firstE_zero (l := [s0, s1, s2, s3, s4, s5, s6, s7].map checkEnergyE) HCS.out.symm
    exact ⟨checkEnergyE_zero (h _ (by simp)), checkEnergyE_zero (h _ (by simp)), checkEnergyE_zero (h _ (by simp)), checkEnergyE_zero (h _ (by simp)), checkEnergyE_zero (h _ (by simp)), checkEnergyE_zero (h _ (by simp)), checkEnergyE_zero (h _ (by simp)), checkEnergyE_zero (h _ (by simp))⟩
  have hwp : (0 ≤ v0 ∧ v0 ≤ 1000) ∧ (0 ≤ v1 ∧ v1 ≤ 1000) ∧ (0 ≤ v2 ∧ v2 ≤ 1000) ∧ (0 ≤ v3 ∧ v3 ≤ 1000) ∧ (0 ≤ v4 ∧ v4 ≤ 1000) ∧ (0 ≤ v5 ∧ v5 ≤ 1000) ∧ (0 ≤ v6 ∧ v6 ≤ 1000) ∧ (0 ≤ v7 ∧ v7 ≤ 1000) := by
    have h := firstE_zero (l := [v0, v1, v2, v3, v4, v5, v6, v7].map checkFactorE) HCW.out.symm
    exact ⟨checkFactorE_zero (h _ (by simp)), checkFactorE_zero (h _ (by simp)), checkFactorE_zero (h _ (by simp)), checkFactorE_zero (h _ (by simp)), checkFactorE_zero (h _ (by simp)), checkFactorE_zero (h _ (by simp)), checkFactorE_zero (h _ (by simp)), checkFactorE_zero (h _ (by simp))⟩
  have he1 : weightedErr [s0, s1, s2, s3, s4, s5, s6, s7] [1000, 1000, 1000, 1000, 1000, 1000, 1000, 1000] = 0 := by
    unfold weightedErr
    rw [← HCS.out]
    rfl
  have he2 : weightedErr [s0, s1, s2, s3, s4, s5, s6, s7] [v0, v1, v2, v3, v4, v5, v6, v7] = 0 := by
    unfold weightedErr
    rw [← HCS.out, ← HCW.out]
    rfl
  have HW1 := fun W => Lib.hid (Weighted_good s0 s1 s2 s3 s4 s5 s6 s7 1000 1000 1000 1000 1000 1000 1000 1000 W he1)
  have HW2 := fun W => Lib.hid (Weighted_good s0 s1 s2 s3 s4 s5 s6 s7 v0 v1 v2 v3 v4 v5 v6 v7 W he2)
  rw [wgt_whole s0 (by omega), wgt_whole s1 (by omega), wgt_whole s2 (by omega), wgt_whole s3 (by omega), wgt_whole s4 (by omega), wgt_whole s5 (by omega), wgt_whole s6 (by omega), wgt_whole s7 (by omega)] at HW1
  obtain ⟨l0, hl0⟩ : ∃ l, l = wgt s0 v0 := ⟨_, rfl⟩
  obtain ⟨l1, hl1⟩ : ∃ l, l = wgt s1 v1 := ⟨_, rfl⟩
  obtain ⟨l2, hl2⟩ : ∃ l, l = wgt s2 v2 := ⟨_, rfl⟩
  obtain ⟨l3, hl3⟩ : ∃ l, l = wgt s3 v3 := ⟨_, rfl⟩
  obtain ⟨l4, hl4⟩ : ∃ l, l = wgt s4 v4 := ⟨_, rfl⟩
  obtain ⟨l5, hl5⟩ : ∃ l, l = wgt s5 v5 := ⟨_, rfl⟩
  obtain ⟨l6, hl6⟩ : ∃ l, l = wgt s6 v6 := ⟨_, rfl⟩
  obtain ⟨l7, hl7⟩ : ∃ l, l = wgt s7 v7 := ⟨_, rfl⟩
  rw [← hl0, ← hl1, ← hl2, ← hl3, ← hl4, ← hl5, ← hl6, ← hl7] at HW2
  have HLB : Hid (∀ k, k < 8 → 0 ≤ [l0, l1, l2, l3, l4, l5, l6, l7].getD k 0 ∧ [l0, l1, l2, l3, l4, l5, l6, l7].getD k 0 ≤ [s0, s1, s2, s3, s4, s5, s6, s7].getD k 0) := by
    show ∀ k, k < 8 → _
    intro k hk
    match k, hk with
    | 0, _ => show 0 ≤ l0 ∧ l0 ≤ s0; rw [hl0]; exact wgt_less s0 v0 (by omega) (by omega) (by omega)
    | 1, _ => show 0 ≤ l1 ∧ l1 ≤ s1; rw [hl1]; exact wgt_less s1 v1 (by omega) (by omega) (by omega)
    | 2, _ => show 0 ≤ l2 ∧ l2 ≤ s2; rw [hl2]; exact wgt_less s2 v2 (by omega) (by omega) (by omega)
    | 3, _ => show 0 ≤ l3 ∧ l3 ≤ s3; rw [hl3]; exact wgt_less s3 v3 (by omega) (by omega) (by omega)
    | 4, _ => show 0 ≤ l4 ∧ l4 ≤ s4; rw [hl4]; exact wgt_less s4 v4 (by omega) (by omega) (by omega)
    | 5, _ => show 0 ≤ l5 ∧ l5 ≤ s5; rw [hl5]; exact wgt_less s5 v5 (by omega) (by omega) (by omega)
    | 6, _ => show 0 ≤ l6 ∧ l6 ≤ s6; rw [hl6]; exact wgt_less s6 v6 (by omega) (by omega) (by omega)
    | 7, _ => show 0 ≤ l7 ∧ l7 ≤ s7; rw [hl7]; exact wgt_less s7 v7 (by omega) (by omega) (by omega)
  clear hsp hwp he1 he2 hbp hR hzn hv hz0 hT hT1 hxl hl0 hl1 hl2 hl3 hl4 hl5 hl6 hl7 h1 h3
  have x1 : T.extract 0 m = T1 := hT1e.symm
  have X1 := Lib.hid x1
  have HM := Lib.hid hm
  have HN : Hid (n ≤ 100000) := by show _ ≤ _; omega
  have hd20 : d1 = d1 := rfl
  clear x1 hm hT1e hd20
  go_enter Tryz.func16, Tryz.ntmps16
  go_upto_region 1 with fail
  obtain ⟨w0, hw0⟩ : ∃ X, X = w.alloc (.cells #[.int .i64 s0, .int .i64 s1, .int .i64 s2, .int .i64 s3, .int .i64 s4, .int .i64 s5, .int .i64 s6, .int .i64 s7, .int .i64 v0, .int .i64 v1, .int .i64 v2, .int .i64 v3, .int .i64 v4, .int .i64 v5, .int .i64 v6, .int .i64 v7] 187) := ⟨_, rfl⟩
  rw [← hw0]
  obtain ⟨hk, hb⟩ := box_facts _ _ w0 hw0
  have HB0 := Lib.hid hb
  have HX0 := Lib.hid hk
  obtain ⟨gx, hg⟩ : ∃ g, g = w.heap.size := ⟨_, rfl⟩
  rw [← hg] at HX0 ⊢
  have HGX : Hid (w.heap.size ≤ gx) := by show _ ≤ _; omega
  clear hb hk hw0 hg
  go_wp2_with fail
  refine Calls.mono (refCheckEnergies_any _ _ _ _ _ hn (HX.out.keep HB0.out)) ?_
  rintro x w' ⟨rfl, rfl⟩
  rw [← HE.out]
  have qc0 := HX0.out.cell 0; have qc1 := HX0.out.cell 1; have qc2 := HX0.out.cell 2; have qc3 := HX0.out.cell 3; have qc4 := HX0.out.cell 4; have qc5 := HX0.out.cell 5; have qc6 := HX0.out.cell 6; have qc7 := HX0.out.cell 7
  simp only [List.getElem?_toArray, List.getElem?_cons_zero, List.getElem?_cons_succ] at qc0 qc1 qc2 qc3 qc4 qc5 qc6 qc7
  go_wp2_with fail
  refine Calls.mono (refCheckSpectrum_any s0 s1 s2 s3 s4 s5 s6 s7 _) ?_
  rintro x w1 ⟨rfl, hb⟩
  rw [← HCS.out]
  have HB1 := Lib.hid (HB0.out.trans (Below.mono hb HB0.out.size))
  have HX1 := Lib.hid (HX0.out.below hb)
  clear hb
  clear qc0 qc1 qc2 qc3 qc4 qc5 qc6 qc7
  have qc8 := HX1.out.cell 8; have qc9 := HX1.out.cell 9; have qc10 := HX1.out.cell 10; have qc11 := HX1.out.cell 11; have qc12 := HX1.out.cell 12; have qc13 := HX1.out.cell 13; have qc14 := HX1.out.cell 14; have qc15 := HX1.out.cell 15
  simp only [List.getElem?_toArray, List.getElem?_cons_zero, List.getElem?_cons_succ] at qc8 qc9 qc10 qc11 qc12 qc13 qc14 qc15
  go_wp2_with fail
  refine Calls.mono (refCheckWeights_any v0 v1 v2 v3 v4 v5 v6 v7 _) ?_
  rintro x w2 ⟨rfl, hb⟩
  rw [← HCW.out]
  have HB2 := Lib.hid (HB1.out.trans (Below.mono hb HB1.out.size))
  have HX2 := Lib.hid (HX1.out.below hb)
  clear hb
  clear qc8 qc9 qc10 qc11 qc12 qc13 qc14 qc15
  go_wp2_with fail
  refine Calls.mono (ints_any _ _ _ _ _ (HX.out.keep HB2.out) HA.out HN.out) ?_
  rintro x w3 ⟨A3, c3, rfl, hI, hb⟩
  have HI3 := Lib.hid hI
  have HB3 := Lib.hid (HB2.out.trans (Below.mono hb HB2.out.size))
  have HX3 := Lib.hid (HX2.out.below hb)
  clear hI hb HB0 HB1 HB2 HX0 HX1 HX2 d1 d3
  go_wp2_with fail
  refine Calls.mono (Print_any _ _ _ _ _ hn HI3.out (HT.out.keep HB3.out)) ?_
  rintro x w4 ⟨rfl, hb⟩
  rw [PV.out, PE.out]
  have HB4 := Lib.hid (HB3.out.trans (Below.mono hb HB3.out.size))
  have HX4 := Lib.hid (HX3.out.below hb)
  clear hb HB3 HX3 HI3
  go_wp2_with fail
  refine Calls.mono ((HPT _).out) ?_
  rintro x w5 ⟨A5, c5, rfl, hI5, hb⟩
  have HI5 := Lib.hid hI5
  have HB5 := Lib.hid (HB4.out.trans (Below.mono hb HB4.out.size))
  have HX5 := Lib.hid (HX4.out.below hb)
  clear hb hI5 HB4 HX4
  go_wp2_with fail
  refine Calls.mono ((HSPT _).out) ?_
  rintro x w6 ⟨v6, rfl, hO, hb⟩
  obtain ⟨A6, c6, rfl, hc6, _, hf⟩ := hO.form
  rw [HLV.out] at hf hc6 ⊢
  obtain ⟨g6, rfl, hg6, hx6⟩ := hf (by omega)
  have HL6 : Hid (∀ i x, (linesV T)[i]? = some x → w6.cell? ⟨g6, i, none⟩ = some (.string x)) := fun i x hi => by
    have := hx6 i x hi
    rwa [Nat.zero_add] at this
  have HI6 := Lib.hid (HI5.out.keep hb)
  have HB6 := Lib.hid (HB5.out.trans (Below.mono hb HB5.out.size))
  have HX6 := Lib.hid (HX5.out.below hb)
  have HSI := Lib.hid (sameInts_any A5 A n n c5 c xs xs w6 hn hn HI6.out (HX.out.keep HB6.out))
  rw [sameB_true rfl] at HSI
  clear hO hb hf hx6 HB5 HX5 HI5 hc6
  go_wp2_with fail
  refine Calls.mono (HSI.out) ?_
  rintro x w7 ⟨rfl, q, hw⟩
  have HL7 : Hid (Below w6.heap.size w6 w7) := by show Below _ _ _; rw [hw]; exact below_drewN' (Below.refl _ _) q
  clear hw HSI
  go_wp2_with fail
  refine Calls.mono ((HPS _).out) ?_
  rintro x w8 ⟨A8, c8, rfl, hI8, _, hb⟩
  have HI8 := Lib.hid hI8
  have HL8 := Lib.hid (HL7.out.trans (Below.mono hb HL7.out.size))
  clear hb hI8 HL7
  go_upto_region 9 with fail
  by_cases hze : ze = 0
  · obtain ⟨z1, z2⟩ := HZE.out hze
    have Z1 := Lib.hid z1
    have Z2 := Lib.hid z2
    subst hze
    clear z1 z2
    go_wp2_with fail
    refine Calls.mono (Print_any A8 zn c8 zl _ HZN.out HI8.out (HT.out.keep (HB6.out.trans (HL8.out.mono HB6.out.size)))) ?_
    rintro x w9 ⟨rfl, hb⟩
    rw [Z1.out, Z2.out]
    have HLw9 := Lib.hid (HL8.out.trans (Below.mono hb HL8.out.size))
    clear hb
    have x1 : T.extract 0 m = T1 := X1.out
    have hm : T.size = m + 1 := HM.out
    go_wp2_with fail
    refine Calls.mono (HPT1 _).out ?_
    rintro x wA ⟨AA, cA, rfl, hb⟩
    have HLwA := Lib.hid (HLw9.out.trans (Below.mono hb HLw9.out.size))
    clear hb x1 hm
    by_cases hp : 0 < n
    · obtain ⟨y, k, hy, hyk, hP2⟩ := HLESS.out hp
      have hcy : wA.cell? ⟨g6, n, none⟩ = some (.string y) := (HLwA.out.cell (p := ⟨g6, n, none⟩) hg6).trans (HL6.out n y hy)
      obtain ⟨T2, hT2⟩ : ∃ T2, T2 = T.extract 0 k := ⟨_, rfl⟩
      have HP2 := fun W => Lib.hid (hP2 T2 W hT2)
      have x2 : T.extract 0 k = T2 := hT2.symm
      have hm : T.size = m + 1 := HM.out
      have hmk : m = y.size + k := hyk.symm
      have dn : decide ((0 : Int) < (n : Int)) = true := by simp; omega
      clear hy hP2 hT2 hyk
      subst hmk
      go_wp2_with fail
      refine Calls.mono (HP2 _).out ?_
      rintro x wB ⟨AB, cB, rfl, hb⟩
      have HLwB := Lib.hid (HLwA.out.trans (Below.mono hb HLwA.out.size))
      clear hb x2 hm dn hcy
      go_upto_region 22 with fail
      obtain ⟨wC, hX⟩ : ∃ X, X = wB.alloc (.cells #[.int .i64 0, .int .i64 0, .int .i64 0, .int .i64 0, .int .i64 0, .int .i64 0, .int .i64 0, .int .i64 0] 80) := ⟨_, rfl⟩
      rw [← hX]
      obtain ⟨hk, hb⟩ := box_facts _ _ wC hX
      have HLC := Lib.hid (HLwB.out.trans (Below.mono hb HLwB.out.size))
      obtain ⟨gw, hg⟩ : ∃ g, g = wB.heap.size := ⟨_, rfl⟩
      rw [← hg] at hk ⊢
      have HGW : Hid (w6.heap.size ≤ gw) := by show _ ≤ _; rw [hg]; exact HLwB.out.size
      have HWC : Hid (Blk wC gw 80 (fillW 0)) := hk
      clear hb hk hX hg
      go_wp2
      go_loopw [26, 162] (fun _ i wr => ∃ k : Nat, k ≤ 8 ∧ i = .int .i64 k ∧ Blk wr gw 80 (fillW k) ∧ Below w6.heap.size w6 wr) (fun _ i _ => 8 - (intOf i).toNat)
      case atStart => exact ⟨0, by omega, rfl, HWC.out, HLC.out⟩
      case round =>
        clear HWC HLC
        obtain ⟨k, hk, rfl, hbk, hbl⟩ := hrel
        have HLW := Lib.hid hbl
        have HK := Lib.hid hbk
        clear hbl
        by_cases hlt : k < 8
        · have hck := hbk.cell k
          rw [fillW_at k k hlt] at hck
          have hfk := hbk.frozen k
          have hs := hbk.set_ k (.int .i64 1000)
          rw [fillW_set k hlt] at hs
          have HSK := Lib.hid hs
          clear hs hbk
          go_wp2
          go_roundw
          case rel => exact ⟨k + 1, by omega, by go_num, HSK.out, HLW.out.setCell (p := ⟨gw, k, none⟩) HGW.out _⟩
          case measure => simp [intOf]; omega
        · obtain rfl : k = 8 := by omega
          clear hbk
          have HK8 : Hid (Blk wr gw 80 #[.int .i64 1000, .int .i64 1000, .int .i64 1000, .int .i64 1000, .int .i64 1000, .int .i64 1000, .int .i64 1000, .int .i64 1000]) := HK.out
          have HXr : Hid (Blk wr gx 187 #[.int .i64 s0, .int .i64 s1, .int .i64 s2, .int .i64 s3, .int .i64 s4, .int .i64 s5, .int .i64 s6, .int .i64 s7, .int .i64 v0, .int .i64 v1, .int .i64 v2, .int .i64 v3, .int .i64 v4, .int .i64 v5, .int .i64 v6, .int .i64 v7]) := HX6.out.below HLW.out
          clear HK
          have qc0 := HXr.out.cell 0; have qc1 := HXr.out.cell 1; have qc2 := HXr.out.cell 2; have qc3 := HXr.out.cell 3; have qc4 := HXr.out.cell 4; have qc5 := HXr.out.cell 5; have qc6 := HXr.out.cell 6; have qc7 := HXr.out.cell 7
          simp only [List.getElem?_toArray, List.getElem?_cons_zero, List.getElem?_cons_succ] at qc0 qc1 qc2 qc3 qc4 qc5 qc6 qc7
          have kc0 := HK8.out.cell 0; have kc1 := HK8.out.cell 1; have kc2 := HK8.out.cell 2; have kc3 := HK8.out.cell 3; have kc4 := HK8.out.cell 4; have kc5 := HK8.out.cell 5; have kc6 := HK8.out.cell 6; have kc7 := HK8.out.cell 7
          simp only [List.getElem?_toArray, List.getElem?_cons_zero, List.getElem?_cons_succ] at kc0 kc1 kc2 kc3 kc4 kc5 kc6 kc7
          go_wp2_with fail
          refine Calls.mono (HW1 _).out ?_
          rintro x wD ⟨rfl, hb⟩
          have HLD := Lib.hid (HLW.out.trans (Below.mono hb HLW.out.size))
          clear hb
          clear qc0 qc1 qc2 qc3 qc4 qc5 qc6 qc7
          clear kc0 kc1 kc2 kc3 kc4 kc5 kc6 kc7
          go_upto_region 28 with fail
          obtain ⟨wE, hX⟩ : ∃ X, X = wD.alloc (.cells #[.int .i64 s0, .int .i64 s1, .int .i64 s2, .int .i64 s3, .int .i64 s4, .int .i64 s5, .int .i64 s6, .int .i64 s7] 81) := ⟨_, rfl⟩
          rw [← hX]
          obtain ⟨hk, hb⟩ := box_facts _ _ wE hX
          have HLE := Lib.hid (HLD.out.trans (Below.mono hb HLD.out.size))
          obtain ⟨gs, hg⟩ : ∃ g, g = wD.heap.size := ⟨_, rfl⟩
          rw [← hg] at hk ⊢
          have HGS := Lib.hid hk
          have HXE : Hid (Blk wE gx 187 #[.int .i64 s0, .int .i64 s1, .int .i64 s2, .int .i64 s3, .int .i64 s4, .int .i64 s5, .int .i64 s6, .int .i64 s7, .int .i64 v0, .int .i64 v1, .int .i64 v2, .int .i64 v3, .int .i64 v4, .int .i64 v5, .int .i64 v6, .int .i64 v7]) := HX6.out.below HLE.out
          clear hb hk hX hg HXr HK8
          have qc0 := HXE.out.cell 0; have qc1 := HXE.out.cell 1; have qc2 := HXE.out.cell 2; have qc3 := HXE.out.cell 3; have qc4 := HXE.out.cell 4; have qc5 := HXE.out.cell 5; have qc6 := HXE.out.cell 6; have qc7 := HXE.out.cell 7; have qc8 := HXE.out.cell 8; have qc9 := HXE.out.cell 9; have qc10 := HXE.out.cell 10; have qc11 := HXE.out.cell 11; have qc12 := HXE.out.cell 12; have qc13 := HXE.out.cell 13; have qc14 := HXE.out.cell 14; have qc15 := HXE.out.cell 15
          simp only [List.getElem?_toArray, List.getElem?_cons_zero, List.getElem?_cons_succ] at qc0 qc1 qc2 qc3 qc4 qc5 qc6 qc7 qc8 qc9 qc10 qc11 qc12 qc13 qc14 qc15
          go_wp2_with fail
          refine Calls.mono (HW2 _).out ?_
          rintro x wF ⟨rfl, hb⟩
          have HLF := Lib.hid (HLE.out.trans (Below.mono hb HLE.out.size))
          have HGS2 := Lib.hid (HGS.out.below hb)
          clear hb
          clear qc0 qc1 qc2 qc3 qc4 qc5 qc6 qc7 qc8 qc9 qc10 qc11 qc12 qc13 qc14 qc15
          go_upto_region 29 with fail
          obtain ⟨wG, hX⟩ : ∃ X, X = wF.alloc (.cells #[.int .i64 l0, .int .i64 l1, .int .i64 l2, .int .i64 l3, .int .i64 l4, .int .i64 l5, .int .i64 l6, .int .i64 l7] 81) := ⟨_, rfl⟩
          rw [← hX]
          obtain ⟨hk, hb⟩ := box_facts _ _ wG hX
          have HLG := Lib.hid (HLF.out.trans (Below.mono hb HLF.out.size))
          have HGS3 := Lib.hid (HGS2.out.below hb)
          obtain ⟨gl, hg⟩ : ∃ g, g = wF.heap.size := ⟨_, rfl⟩
          rw [← hg] at hk ⊢
          have HGL := Lib.hid hk
          have HXG : Hid (Blk wG gx 187 #[.int .i64 s0, .int .i64 s1, .int .i64 s2, .int .i64 s3, .int .i64 s4, .int .i64 s5, .int .i64 s6, .int .i64 s7, .int .i64 v0, .int .i64 v1, .int .i64 v2, .int .i64 v3, .int .i64 v4, .int .i64 v5, .int .i64 v6, .int .i64 v7]) := HX6.out.below HLG.out
          clear hb hk hX hg HXE HGS HGS2
          have qc0 := HXG.out.cell 0; have qc1 := HXG.out.cell 1; have qc2 := HXG.out.cell 2; have qc3 := HXG.out.cell 3; have qc4 := HXG.out.cell 4; have qc5 := HXG.out.cell 5; have qc6 := HXG.out.cell 6; have qc7 := HXG.out.cell 7
          simp only [List.getElem?_toArray, List.getElem?_cons_zero, List.getElem?_cons_succ] at qc0 qc1 qc2 qc3 qc4 qc5 qc6 qc7
          have rc0 := HGS3.out.cell 0; have rc1 := HGS3.out.cell 1; have rc2 := HGS3.out.cell 2; have rc3 := HGS3.out.cell 3; have rc4 := HGS3.out.cell 4; have rc5 := HGS3.out.cell 5; have rc6 := HGS3.out.cell 6; have rc7 := HGS3.out.cell 7
          simp only [List.getElem?_toArray, List.getElem?_cons_zero, List.getElem?_cons_succ] at rc0 rc1 rc2 rc3 rc4 rc5 rc6 rc7
          have tc0 := HGL.out.cell 0; have tc1 := HGL.out.cell 1; have tc2 := HGL.out.cell 2; have tc3 := HGL.out.cell 3; have tc4 := HGL.out.cell 4; have tc5 := HGL.out.cell 5; have tc6 := HGL.out.cell 6; have tc7 := HGL.out.cell 7
          simp only [List.getElem?_toArray, List.getElem?_cons_zero, List.getElem?_cons_succ] at tc0 tc1 tc2 tc3 tc4 tc5 tc6 tc7
          go_wp2
          clear qc0 qc1 qc2 qc3 qc4 qc5 qc6 qc7
          clear rc0 rc1 rc2 rc3 rc4 rc5 rc6 rc7
          clear tc0 tc1 tc2 tc3 tc4 tc5 tc6 tc7
          go_loop [31, 32, 196] (fun _ _ i => ∃ k : Nat, k ≤ 8 ∧ i = .int .i64 k) (fun _ _ i => 8 - (intOf i).toNat)
          case atStart => exact ⟨0, by omega, rfl⟩
          case round =>
            obtain ⟨k, hk, rfl⟩ := hrel
            by_cases hlt : k < 8
            · have hix := fun W => index8s k hlt l0 l1 l2 l3 l4 l5 l6 l7 W
              have hck : wG.cell? ⟨gx, k, none⟩ = some (.int .i64 ([s0, s1, s2, s3, s4, s5, s6, s7].getD k 0)) := by
                rw [HXG.out.cell k]
                match k, hlt with
                | 0, _ => rfl
                | 1, _ => rfl
                | 2, _ => rfl
                | 3, _ => rfl
                | 4, _ => rfl
                | 5, _ => rfl
                | 6, _ => rfl
                | 7, _ => rfl
              obtain ⟨b1, b2⟩ := HLB.out k hlt
              obtain ⟨L, hL⟩ : ∃ L, L = [l0, l1, l2, l3, l4, l5, l6, l7].getD k 0 := ⟨_, rfl⟩
              obtain ⟨M, hM⟩ : ∃ M, M = [s0, s1, s2, s3, s4, s5, s6, s7].getD k 0 := ⟨_, rfl⟩
              rw [← hL] at hix b1 b2
              rw [← hM] at hck b2
              have e1 : decide (L < 0) = false := by simp; omega
              have e2 : decide (M < L) = false := by simp; omega
              clear hL hM
              go_wp2
              go_round
              case rel => exact ⟨k + 1, by omega, by go_num⟩
              case measure => simp [intOf]; omega
            · obtain rfl : k = 8 := by omega
              have HBB : Hid (Below w.heap.size w wG) := HB6.out.trans (HLG.out.mono HB6.out.size)
              go_wp2_with fail
              refine Calls.mono (awake_any _ (HS.out.keep HBB.out) (HT.out.keep HBB.out)) ?_
              rintro x w9 ⟨rfl, hb⟩
              have HB9 := Lib.hid (HBB.out.trans (Below.mono hb HBB.out.size))
              clear hb
              go_wp2
              go_ret
              exact ⟨rfl, HB9.out⟩
    · obtain rfl : n = 0 := by omega
      go_upto_region 22 with fail
      obtain ⟨wC, hX⟩ : ∃ X, X = wA.alloc (.cells #[.int .i64 0, .int .i64 0, .int .i64 0, .int .i64 0, .int .i64 0, .int .i64 0, .int .i64 0, .int .i64 0] 80) := ⟨_, rfl⟩
      rw [← hX]
      obtain ⟨hk, hb⟩ := box_facts _ _ wC hX
      have HLC := Lib.hid (HLwA.out.trans (Below.mono hb HLwA.out.size))
      obtain ⟨gw, hg⟩ : ∃ g, g = wA.heap.size := ⟨_, rfl⟩
      rw [← hg] at hk ⊢
      have HGW : Hid (w6.heap.size ≤ gw) := by show _ ≤ _; rw [hg]; exact HLwA.out.size
      have HWC : Hid (Blk wC gw 80 (fillW 0)) := hk
      clear hb hk hX hg
      go_wp2
      go_loopw [26, 162] (fun _ i wr => ∃ k : Nat, k ≤ 8 ∧ i = .int .i64 k ∧ Blk wr gw 80 (fillW k) ∧ Below w6.heap.size w6 wr) (fun _ i _ => 8 - (intOf i).toNat)
      case atStart => exact ⟨0, by omega, rfl, HWC.out, HLC.out⟩
      case round =>
        clear HWC HLC
        obtain ⟨k, hk, rfl, hbk, hbl⟩ := hrel
        have HLW := Lib.hid hbl
        have HK := Lib.hid hbk
        clear hbl
        by_cases hlt : k < 8
        · have hck := hbk.cell k
          rw [fillW_at k k hlt] at hck
          have hfk := hbk.frozen k
          have hs := hbk.set_ k (.int .i64 1000)
          rw [fillW_set k hlt] at hs
          have HSK := Lib.hid hs
          clear hs hbk
          go_wp2
          go_roundw
          case rel => exact ⟨k + 1, by omega, by go_num, HSK.out, HLW.out.setCell (p := ⟨gw, k, none⟩) HGW.out _⟩
          case measure => simp [intOf]; omega
        · obtain rfl : k = 8 := by omega
          clear hbk
          have HK8 : Hid (Blk wr gw 80 #[.int .i64 1000, .int .i64 1000, .int .i64 1000, .int .i64 1000, .int .i64 1000, .int .i64 1000, .int .i64 1000, .int .i64 1000]) := HK.out
          have HXr : Hid (Blk wr gx 187 #[.int .i64 s0, .int .i64 s1, .int .i64 s2, .int .i64 s3, .int .i64 s4, .int .i64 s5, .int .i64 s6, .int .i64 s7, .int .i64 v0, .int .i64 v1, .int .i64 v2, .int .i64 v3, .int .i64 v4, .int .i64 v5, .int .i64 v6, .int .i64 v7]) := HX6.out.below HLW.out
          clear HK
          have qc0 := HXr.out.cell 0; have qc1 := HXr.out.cell 1; have qc2 := HXr.out.cell 2; have qc3 := HXr.out.cell 3; have qc4 := HXr.out.cell 4; have qc5 := HXr.out.cell 5; have qc6 := HXr.out.cell 6; have qc7 := HXr.out.cell 7
          simp only [List.getElem?_toArray, List.getElem?_cons_zero, List.getElem?_cons_succ] at qc0 qc1 qc2 qc3 qc4 qc5 qc6 qc7
          have kc0 := HK8.out.cell 0; have kc1 := HK8.out.cell 1; have kc2 := HK8.out.cell 2; have kc3 := HK8.out.cell 3; have kc4 := HK8.out.cell 4; have kc5 := HK8.out.cell 5; have kc6 := HK8.out.cell 6; have kc7 := HK8.out.cell 7
          simp only [List.getElem?_toArray, List.getElem?_cons_zero, List.getElem?_cons_succ] at kc0 kc1 kc2 kc3 kc4 kc5 kc6 kc7
          go_wp2_with fail
          refine Calls.mono (HW1 _).out ?_
          rintro x wD ⟨rfl, hb⟩
          have HLD := Lib.hid (HLW.out.trans (Below.mono hb HLW.out.size))
          clear hb
          clear qc0 qc1 qc2 qc3 qc4 qc5 qc6 qc7
          clear kc0 kc1 kc2 kc3 kc4 kc5 kc6 kc7
          go_upto_region 28 with fail
          obtain ⟨wE, hX⟩ : ∃ X, X = wD.alloc (.cells #[.int .i64 s0, .int .i64 s1, .int .i64 s2, .int .i64 s3, .int .i64 s4, .int .i64 s5, .int .i64 s6, .int .i64 s7] 81) := ⟨_, rfl⟩
          rw [← hX]
          obtain ⟨hk, hb⟩ := box_facts _ _ wE hX
          have HLE := Lib.hid (HLD.out.trans (Below.mono hb HLD.out.size))
          obtain ⟨gs, hg⟩ : ∃ g, g = wD.heap.size := ⟨_, rfl⟩
          rw [← hg] at hk ⊢
          have HGS := Lib.hid hk
          have HXE : Hid (Blk wE gx 187 #[.int .i64 s0, .int .i64 s1, .int .i64 s2, .int .i64 s3, .int .i64 s4, .int .i64 s5, .int .i64 s6, .int .i64 s7, .int .i64 v0, .int .i64 v1, .int .i64 v2, .int .i64 v3, .int .i64 v4, .int .i64 v5, .int .i64 v6, .int .i64 v7]) := HX6.out.below HLE.out
          clear hb hk hX hg HXr HK8
          have qc0 := HXE.out.cell 0; have qc1 := HXE.out.cell 1; have qc2 := HXE.out.cell 2; have qc3 := HXE.out.cell 3; have qc4 := HXE.out.cell 4; have qc5 := HXE.out.cell 5; have qc6 := HXE.out.cell 6; have qc7 := HXE.out.cell 7; have qc8 := HXE.out.cell 8; have qc9 := HXE.out.cell 9; have qc10 := HXE.out.cell 10; have qc11 := HXE.out.cell 11; have qc12 := HXE.out.cell 12; have qc13 := HXE.out.cell 13; have qc14 := HXE.out.cell 14; have qc15 := HXE.out.cell 15
          simp only [List.getElem?_toArray, List.getElem?_cons_zero, List.getElem?_cons_succ] at qc0 qc1 qc2 qc3 qc4 qc5 qc6 qc7 qc8 qc9 qc10 qc11 qc12 qc13 qc14 qc15
          go_wp2_with fail
          refine Calls.mono (HW2 _).out ?_
          rintro x wF ⟨rfl, hb⟩
          have HLF := Lib.hid (HLE.out.trans (Below.mono hb HLE.out.size))
          have HGS2 := Lib.hid (HGS.out.below hb)
          clear hb
          clear qc0 qc1 qc2 qc3 qc4 qc5 qc6 qc7 qc8 qc9 qc10 qc11 qc12 qc13 qc14 qc15
          go_upto_region 29 with fail
          obtain ⟨wG, hX⟩ : ∃ X, X = wF.alloc (.cells #[.int .i64 l0, .int .i64 l1, .int .i64 l2, .int .i64 l3, .int .i64 l4, .int .i64 l5, .int .i64 l6, .int .i64 l7] 81) := ⟨_, rfl⟩
          rw [← hX]
          obtain ⟨hk, hb⟩ := box_facts _ _ wG hX
          have HLG := Lib.hid (HLF.out.trans (Below.mono hb HLF.out.size))
          have HGS3 := Lib.hid (HGS2.out.below hb)
          obtain ⟨gl, hg⟩ : ∃ g, g = wF.heap.size := ⟨_, rfl⟩
          rw [← hg] at hk ⊢
          have HGL := Lib.hid hk
          have HXG : Hid (Blk wG gx 187 #[.int .i64 s0, .int .i64 s1, .int .i64 s2, .int .i64 s3, .int .i64 s4, .int .i64 s5, .int .i64 s6, .int .i64 s7, .int .i64 v0, .int .i64 v1, .int .i64 v2, .int .i64 v3, .int .i64 v4, .int .i64 v5, .int .i64 v6, .int .i64 v7]) := HX6.out.below HLG.out
          clear hb hk hX hg HXE HGS HGS2
          have qc0 := HXG.out.cell 0; have qc1 := HXG.out.cell 1; have qc2 := HXG.out.cell 2; have qc3 := HXG.out.cell 3; have qc4 := HXG.out.cell 4; have qc5 := HXG.out.cell 5; have qc6 := HXG.out.cell 6; have qc7 := HXG.out.cell 7
          simp only [List.getElem?_toArray, List.getElem?_cons_zero, List.getElem?_cons_succ] at qc0 qc1 qc2 qc3 qc4 qc5 qc6 qc7
          have rc0 := HGS3.out.cell 0; have rc1 := HGS3.out.cell 1; have rc2 := HGS3.out.cell 2; have rc3 := HGS3.out.cell 3; have rc4 := HGS3.out.cell 4; have rc5 := HGS3.out.cell 5; have rc6 := HGS3.out.cell 6; have rc7 := HGS3.out.cell 7
          simp only [List.getElem?_toArray, List.getElem?_cons_zero, List.getElem?_cons_succ] at rc0 rc1 rc2 rc3 rc4 rc5 rc6 rc7
          have tc0 := HGL.out.cell 0; have tc1 := HGL.out.cell 1; have tc2 := HGL.out.cell 2; have tc3 := HGL.out.cell 3; have tc4 := HGL.out.cell 4; have tc5 := HGL.out.cell 5; have tc6 := HGL.out.cell 6; have tc7 := HGL.out.cell 7
          simp only [List.getElem?_toArray, List.getElem?_cons_zero, List.getElem?_cons_succ] at tc0 tc1 tc2 tc3 tc4 tc5 tc6 tc7
          go_wp2
          clear qc0 qc1 qc2 qc3 qc4 qc5 qc6 qc7
          clear rc0 rc1 rc2 rc3 rc4 rc5 rc6 rc7
          clear tc0 tc1 tc2 tc3 tc4 tc5 tc6 tc7
          go_loop [31, 32, 196] (fun _ _ i => ∃ k : Nat, k ≤ 8 ∧ i = .int .i64 k) (fun _ _ i => 8 - (intOf i).toNat)
          case atStart => exact ⟨0, by omega, rfl⟩
          case round =>
            obtain ⟨k, hk, rfl⟩ := hrel
            by_cases hlt : k < 8
            · have hix := fun W => index8s k hlt l0 l1 l2 l3 l4 l5 l6 l7 W
              have hck : wG.cell? ⟨gx, k, none⟩ = some (.int .i64 ([s0, s1, s2, s3, s4, s5, s6, s7].getD k 0)) := by
                rw [HXG.out.cell k]
                match k, hlt with
                | 0, _ => rfl
                | 1, _ => rfl
                | 2, _ => rfl
                | 3, _ => rfl
                | 4, _ => rfl
                | 5, _ => rfl
                | 6, _ => rfl
                | 7, _ => rfl
              obtain ⟨b1, b2⟩ := HLB.out k hlt
              obtain ⟨L, hL⟩ : ∃ L, L = [l0, l1, l2, l3, l4, l5, l6, l7].getD k 0 := ⟨_, rfl⟩
              obtain ⟨M, hM⟩ : ∃ M, M = [s0, s1, s2, s3, s4, s5, s6, s7].getD k 0 := ⟨_, rfl⟩
              rw [← hL] at hix b1 b2
              rw [← hM] at hck b2
              have e1 : decide (L < 0) = false := by simp; omega
              have e2 : decide (M < L) = false := by simp; omega
              clear hL hM
              go_wp2
              go_round
              case rel => exact ⟨k + 1, by omega, by go_num⟩
              case measure => simp [intOf]; omega
            · obtain rfl : k = 8 := by omega
              have HBB : Hid (Below w.heap.size w wG) := HB6.out.trans (HLG.out.mono HB6.out.size)
              go_wp2_with fail
              refine Calls.mono (awake_any _ (HS.out.keep HBB.out) (HT.out.keep HBB.out)) ?_
              rintro x w9 ⟨rfl, hb⟩
              have HB9 := Lib.hid (HBB.out.trans (Below.mono hb HBB.out.size))
              clear hb
              go_wp2
              go_ret
              exact ⟨rfl, HB9.out⟩
  · have dz : (ze == 0) = false := by simp [hze]
    have HLw8 := HL8
    clear hze
    have x1 : T.extract 0 m = T1 := X1.out
    have hm : T.size = m + 1 := HM.out
    go_wp2_with fail
    refine Calls.mono (HPT1 _).out ?_
    rintro x wA ⟨AA, cA, rfl, hb⟩
    have HLwA := Lib.hid (HLw8.out.trans (Below.mono hb HLw8.out.size))
    clear hb x1 hm
    by_cases hp : 0 < n
    · obtain ⟨y, k, hy, hyk, hP2⟩ := HLESS.out hp
      have hcy : wA.cell? ⟨g6, n, none⟩ = some (.string y) := (HLwA.out.cell (p := ⟨g6, n, none⟩) hg6).trans (HL6.out n y hy)
      obtain ⟨T2, hT2⟩ : ∃ T2, T2 = T.extract 0 k := ⟨_, rfl⟩
      have HP2 := fun W => Lib.hid (hP2 T2 W hT2)
      have x2 : T.extract 0 k = T2 := hT2.symm
      have hm : T.size = m + 1 := HM.out
      have hmk : m = y.size + k := hyk.symm
      have dn : decide ((0 : Int) < (n : Int)) = true := by simp; omega
      clear hy hP2 hT2 hyk
      subst hmk
      go_wp2_with fail
      refine Calls.mono (HP2 _).out ?_
      rintro x wB ⟨AB, cB, rfl, hb⟩
      have HLwB := Lib.hid (HLwA.out.trans (Below.mono hb HLwA.out.size))
      clear hb x2 hm dn hcy
      go_upto_region 22 with fail
      obtain ⟨wC, hX⟩ : ∃ X, X = wB.alloc (.cells #[.int .i64 0, .int .i64 0, .int .i64 0, .int .i64 0, .int .i64 0, .int .i64 0, .int .i64 0, .int .i64 0] 80) := ⟨_, rfl⟩
      rw [← hX]
      obtain ⟨hk, hb⟩ := box_facts _ _ wC hX
      have HLC := Lib.hid (HLwB.out.trans (Below.mono hb HLwB.out.size))
      obtain ⟨gw, hg⟩ : ∃ g, g = wB.heap.size := ⟨_, rfl⟩
      rw [← hg] at hk ⊢
      have HGW : Hid (w6.heap.size ≤ gw) := by show _ ≤ _; rw [hg]; exact HLwB.out.size
      have HWC : Hid (Blk wC gw 80 (fillW 0)) := hk
      clear hb hk hX hg
      go_wp2
      go_loopw [26, 162] (fun _ i wr => ∃ k : Nat, k ≤ 8 ∧ i = .int .i64 k ∧ Blk wr gw 80 (fillW k) ∧ Below w6.heap.size w6 wr) (fun _ i _ => 8 - (intOf i).toNat)
      case atStart => exact ⟨0, by omega, rfl, HWC.out, HLC.out⟩
      case round =>
        clear HWC HLC
        obtain ⟨k, hk, rfl, hbk, hbl⟩ := hrel
        have HLW := Lib.hid hbl
        have HK := Lib.hid hbk
        clear hbl
        by_cases hlt : k < 8
        · have hck := hbk.cell k
          rw [fillW_at k k hlt] at hck
          have hfk := hbk.frozen k
          have hs := hbk.set_ k (.int .i64 1000)
          rw [fillW_set k hlt] at hs
          have HSK := Lib.hid hs
          clear hs hbk
          go_wp2
          go_roundw
          case rel => exact ⟨k + 1, by omega, by go_num, HSK.out, HLW.out.setCell (p := ⟨gw, k, none⟩) HGW.out _⟩
          case measure => simp [intOf]; omega
        · obtain rfl : k = 8 := by omega
          clear hbk
          have HK8 : Hid (Blk wr gw 80 #[.int .i64 1000, .int .i64 1000, .int .i64 1000, .int .i64 1000, .int .i64 1000, .int .i64 1000, .int .i64 1000, .int .i64 1000]) := HK.out
          have HXr : Hid (Blk wr gx 187 #[.int .i64 s0, .int .i64 s1, .int .i64 s2, .int .i64 s3, .int .i64 s4, .int .i64 s5, .int .i64 s6, .int .i64 s7, .int .i64 v0, .int .i64 v1, .int .i64 v2, .int .i64 v3, .int .i64 v4, .int .i64 v5, .int .i64 v6, .int .i64 v7]) := HX6.out.below HLW.out
          clear HK
          have qc0 := HXr.out.cell 0; have qc1 := HXr.out.cell 1; have qc2 := HXr.out.cell 2; have qc3 := HXr.out.cell 3; have qc4 := HXr.out.cell 4; have qc5 := HXr.out.cell 5; have qc6 := HXr.out.cell 6; have qc7 := HXr.out.cell 7
          simp only [List.getElem?_toArray, List.getElem?_cons_zero, List.getElem?_cons_succ] at qc0 qc1 qc2 qc3 qc4 qc5 qc6 qc7
          have kc0 := HK8.out.cell 0; have kc1 := HK8.out.cell 1; have kc2 := HK8.out.cell 2; have kc3 := HK8.out.cell 3; have kc4 := HK8.out.cell 4; have kc5 := HK8.out.cell 5; have kc6 := HK8.out.cell 6; have kc7 := HK8.out.cell 7
          simp only [List.getElem?_toArray, List.getElem?_cons_zero, List.getElem?_cons_succ] at kc0 kc1 kc2 kc3 kc4 kc5 kc6 kc7
          go_wp2_with fail
          refine Calls.mono (HW1 _).out ?_
          rintro x wD ⟨rfl, hb⟩
          have HLD := Lib.hid (HLW.out.trans (Below.mono hb HLW.out.size))
          clear hb
          clear qc0 qc1 qc2 qc3 qc4 qc5 qc6 qc7
          clear kc0 kc1 kc2 kc3 kc4 kc5 kc6 kc7
          go_upto_region 28 with fail
          obtain ⟨wE, hX⟩ : ∃ X, X = wD.alloc (.cells #[.int .i64 s0, .int .i64 s1, .int .i64 s2, .int .i64 s3, .int .i64 s4, .int .i64 s5, .int .i64 s6, .int .i64 s7] 81) := ⟨_, rfl⟩
          rw [← hX]
          obtain ⟨hk, hb⟩ := box_facts _ _ wE hX
          have HLE := Lib.hid (HLD.out.trans (Below.mono hb HLD.out.size))
          obtain ⟨gs, hg⟩ : ∃ g, g = wD.heap.size := ⟨_, rfl⟩
          rw [← hg] at hk ⊢
          have HGS := Lib.hid hk
          have HXE : Hid (Blk wE gx 187 #[.int .i64 s0, .int .i64 s1, .int .i64 s2, .int .i64 s3, .int .i64 s4, .int .i64 s5, .int .i64 s6, .int .i64 s7, .int .i64 v0, .int .i64 v1, .int .i64 v2, .int .i64 v3, .int .i64 v4, .int .i64 v5, .int .i64 v6, .int .i64 v7]) := HX6.out.below HLE.out
          clear hb hk hX hg HXr HK8
          have qc0 := HXE.out.cell 0; have qc1 := HXE.out.cell 1; have qc2 := HXE.out.cell 2; have qc3 := HXE.out.cell 3; have qc4 := HXE.out.cell 4; have qc5 := HXE.out.cell 5; have qc6 := HXE.out.cell 6; have qc7 := HXE.out.cell 7; have qc8 := HXE.out.cell 8; have qc9 := HXE.out.cell 9; have qc10 := HXE.out.cell 10; have qc11 := HXE.out.cell 11; have qc12 := HXE.out.cell 12; have qc13 := HXE.out.cell 13; have qc14 := HXE.out.cell 14; have qc15 := HXE.out.cell 15
          simp only [List.getElem?_toArray, List.getElem?_cons_zero, List.getElem?_cons_succ] at qc0 qc1 qc2 qc3 qc4 qc5 qc6 qc7 qc8 qc9 qc10 qc11 qc12 qc13 qc14 qc15
          go_wp2_with fail
          refine Calls.mono (HW2 _).out ?_
          rintro x wF ⟨rfl, hb⟩
          have HLF := Lib.hid (HLE.out.trans (Below.mono hb HLE.out.size))
          have HGS2 := Lib.hid (HGS.out.below hb)
          clear hb
          clear qc0 qc1 qc2 qc3 qc4 qc5 qc6 qc7 qc8 qc9 qc10 qc11 qc12 qc13 qc14 qc15
          go_upto_region 29 with fail
          obtain ⟨wG, hX⟩ : ∃ X, X = wF.alloc (.cells #[.int .i64 l0, .int .i64 l1, .int .i64 l2, .int .i64 l3, .int .i64 l4, .int .i64 l5, .int .i64 l6, .int .i64 l7] 81) := ⟨_, rfl⟩
          rw [← hX]
          obtain ⟨hk, hb⟩ := box_facts _ _ wG hX
          have HLG := Lib.hid (HLF.out.trans (Below.mono hb HLF.out.size))
          have HGS3 := Lib.hid (HGS2.out.below hb)
          obtain ⟨gl, hg⟩ : ∃ g, g = wF.heap.size := ⟨_, rfl⟩
          rw [← hg] at hk ⊢
          have HGL := Lib.hid hk
          have HXG : Hid (Blk wG gx 187 #[.int .i64 s0, .int .i64 s1, .int .i64 s2, .int .i64 s3, .int .i64 s4, .int .i64 s5, .int .i64 s6, .int .i64 s7, .int .i64 v0, .int .i64 v1, .int .i64 v2, .int .i64 v3, .int .i64 v4, .int .i64 v5, .int .i64 v6, .int .i64 v7]) := HX6.out.below HLG.out
          clear hb hk hX hg HXE HGS HGS2
          have qc0 := HXG.out.cell 0; have qc1 := HXG.out.cell 1; have qc2 := HXG.out.cell 2; have qc3 := HXG.out.cell 3; have qc4 := HXG.out.cell 4; have qc5 := HXG.out.cell 5; have qc6 := HXG.out.cell 6; have qc7 := HXG.out.cell 7
          simp only [List.getElem?_toArray, List.getElem?_cons_zero, List.getElem?_cons_succ] at qc0 qc1 qc2 qc3 qc4 qc5 qc6 qc7
          have rc0 := HGS3.out.cell 0; have rc1 := HGS3.out.cell 1; have rc2 := HGS3.out.cell 2; have rc3 := HGS3.out.cell 3; have rc4 := HGS3.out.cell 4; have rc5 := HGS3.out.cell 5; have rc6 := HGS3.out.cell 6; have rc7 := HGS3.out.cell 7
          simp only [List.getElem?_toArray, List.getElem?_cons_zero, List.getElem?_cons_succ] at rc0 rc1 rc2 rc3 rc4 rc5 rc6 rc7
          have tc0 := HGL.out.cell 0; have tc1 := HGL.out.cell 1; have tc2 := HGL.out.cell 2; have tc3 := HGL.out.cell 3; have tc4 := HGL.out.cell 4; have tc5 := HGL.out.cell 5; have tc6 := HGL.out.cell 6; have tc7 := HGL.out.cell 7
          simp only [List.getElem?_toArray, List.getElem?_cons_zero, List.getElem?_cons_succ] at tc0 tc1 tc2 tc3 tc4 tc5 tc6 tc7
          go_wp2
          clear qc0 qc1 qc2 qc3 qc4 qc5 qc6 qc7
          clear rc0 rc1 rc2 rc3 rc4 rc5 rc6 rc7
          clear tc0 tc1 tc2 tc3 tc4 tc5 tc6 tc7
          go_loop [31, 32, 196] (fun _ _ i => ∃ k : Nat, k ≤ 8 ∧ i = .int .i64 k) (fun _ _ i => 8 - (intOf i).toNat)
          case atStart => exact ⟨0, by omega, rfl⟩
          case round =>
            obtain ⟨k, hk, rfl⟩ := hrel
            by_cases hlt : k < 8
            · have hix := fun W => index8s k hlt l0 l1 l2 l3 l4 l5 l6 l7 W
              have hck : wG.cell? ⟨gx, k, none⟩ = some (.int .i64 ([s0, s1, s2, s3, s4, s5, s6, s7].getD k 0)) := by
                rw [HXG.out.cell k]
                match k, hlt with
                | 0, _ => rfl
                | 1, _ => rfl
                | 2, _ => rfl
                | 3, _ => rfl
                | 4, _ => rfl
                | 5, _ => rfl
                | 6, _ => rfl
                | 7, _ => rfl
              obtain ⟨b1, b2⟩ := HLB.out k hlt
              obtain ⟨L, hL⟩ : ∃ L, L = [l0, l1, l2, l3, l4, l5, l6, l7].getD k 0 := ⟨_, rfl⟩
              obtain ⟨M, hM⟩ : ∃ M, M = [s0, s1, s2, s3, s4, s5, s6, s7].getD k 0 := ⟨_, rfl⟩
              rw [← hL] at hix b1 b2
              rw [← hM] at hck b2
              have e1 : decide (L < 0) = false := by simp; omega
              have e2 : decide (M < L) = false := by simp; omega
              clear hL hM
              go_wp2
              go_round
              case rel => exact ⟨k + 1, by omega, by go_num⟩
              case measure => simp [intOf]; omega
            · obtain rfl : k = 8 := by omega
              have HBB : Hid (Below w.heap.size w wG) := HB6.out.trans (HLG.out.mono HB6.out.size)
              go_wp2_with fail
              refine Calls.mono (awake_any _ (HS.out.keep HBB.out) (HT.out.keep HBB.out)) ?_
              rintro x w9 ⟨rfl, hb⟩
              have HB9 := Lib.hid (HBB.out.trans (Below.mono hb HBB.out.size))
              clear hb
              go_wp2
              go_ret
              exact ⟨rfl, HB9.out⟩
    · obtain rfl : n = 0 := by omega
      go_upto_region 22 with fail
      obtain ⟨wC, hX⟩ : ∃ X, X = wA.alloc (.cells #[.int .i64 0, .int .i64 0, .int .i64 0, .int .i64 0, .int .i64 0, .int .i64 0, .int .i64 0, .int .i64 0] 80) := ⟨_, rfl⟩
      rw [← hX]
      obtain ⟨hk, hb⟩ := box_facts _ _ wC hX
      have HLC := Lib.hid (HLwA.out.trans (Below.mono hb HLwA.out.size))
      obtain ⟨gw, hg⟩ : ∃ g, g = wA.heap.size := ⟨_, rfl⟩
      rw [← hg] at hk ⊢
      have HGW : Hid (w6.heap.size ≤ gw) := by show _ ≤ _; rw [hg]; exact HLwA.out.size
      have HWC : Hid (Blk wC gw 80 (fillW 0)) := hk
      clear hb hk hX hg
      go_wp2
      go_loopw [26, 162] (fun _ i wr => ∃ k : Nat, k ≤ 8 ∧ i = .int .i64 k ∧ Blk wr gw 80 (fillW k) ∧ Below w6.heap.size w6 wr) (fun _ i _ => 8 - (intOf i).toNat)
      case atStart => exact ⟨0, by omega, rfl, HWC.out, HLC.out⟩
      case round =>
        clear HWC HLC
        obtain ⟨k, hk, rfl, hbk, hbl⟩ := hrel
        have HLW := Lib.hid hbl
        have HK := Lib.hid hbk
        clear hbl
        by_cases hlt : k < 8
        · have hck := hbk.cell k
          rw [fillW_at k k hlt] at hck
          have hfk := hbk.frozen k
          have hs := hbk.set_ k (.int .i64 1000)
          rw [fillW_set k hlt] at hs
          have HSK := Lib.hid hs
          clear hs hbk
          go_wp2
          go_roundw
          case rel => exact ⟨k + 1, by omega, by go_num, HSK.out, HLW.out.setCell (p := ⟨gw, k, none⟩) HGW.out _⟩
          case measure => simp [intOf]; omega
        · obtain rfl : k = 8 := by omega
          clear hbk
          have HK8 : Hid (Blk wr gw 80 #[.int .i64 1000, .int .i64 1000, .int .i64 1000, .int .i64 1000, .int .i64 1000, .int .i64 1000, .int .i64 1000, .int .i64 1000]) := HK.out
          have HXr : Hid (Blk wr gx 187 #[.int .i64 s0, .int .i64 s1, .int .i64 s2, .int .i64 s3, .int .i64 s4, .int .i64 s5, .int .i64 s6, .int .i64 s7, .int .i64 v0, .int .i64 v1, .int .i64 v2, .int .i64 v3, .int .i64 v4, .int .i64 v5, .int .i64 v6, .int .i64 v7]) := HX6.out.below HLW.out
          clear HK
          have qc0 := HXr.out.cell 0; have qc1 := HXr.out.cell 1; have qc2 := HXr.out.cell 2; have qc3 := HXr.out.cell 3; have qc4 := HXr.out.cell 4; have qc5 := HXr.out.cell 5; have qc6 := HXr.out.cell 6; have qc7 := HXr.out.cell 7
          simp only [List.getElem?_toArray, List.getElem?_cons_zero, List.getElem?_cons_succ] at qc0 qc1 qc2 qc3 qc4 qc5 qc6 qc7
          have kc0 := HK8.out.cell 0; have kc1 := HK8.out.cell 1; have kc2 := HK8.out.cell 2; have kc3 := HK8.out.cell 3; have kc4 := HK8.out.cell 4; have kc5 := HK8.out.cell 5; have kc6 := HK8.out.cell 6; have kc7 := HK8.out.cell 7
          simp only [List.getElem?_toArray, List.getElem?_cons_zero, List.getElem?_cons_succ] at kc0 kc1 kc2 kc3 kc4 kc5 kc6 kc7
          go_wp2_with fail
          refine Calls.mono (HW1 _).out ?_
          rintro x wD ⟨rfl, hb⟩
          have HLD := Lib.hid (HLW.out.trans (Below.mono hb HLW.out.size))
          clear hb
          clear qc0 qc1 qc2 qc3 qc4 qc5 qc6 qc7
          clear kc0 kc1 kc2 kc3 kc4 kc5 kc6 kc7
          go_upto_region 28 with fail
          obtain ⟨wE, hX⟩ : ∃ X, X = wD.alloc (.cells #[.int .i64 s0, .int .i64 s1, .int .i64 s2, .int .i64 s3, .int .i64 s4, .int .i64 s5, .int .i64 s6, .int .i64 s7] 81) := ⟨_, rfl⟩
          rw [← hX]
          obtain ⟨hk, hb⟩ := box_facts _ _ wE hX
          have HLE := Lib.hid (HLD.out.trans (Below.mono hb HLD.out.size))
          obtain ⟨gs, hg⟩ : ∃ g, g = wD.heap.size := ⟨_, rfl⟩
          rw [← hg] at hk ⊢
          have HGS := Lib.hid hk
          have HXE : Hid (Blk wE gx 187 #[.int .i64 s0, .int .i64 s1, .int .i64 s2, .int .i64 s3, .int .i64 s4, .int .i64 s5, .int .i64 s6, .int .i64 s7, .int .i64 v0, .int .i64 v1, .int .i64 v2, .int .i64 v3, .int .i64 v4, .int .i64 v5, .int .i64 v6, .int .i64 v7]) := HX6.out.below HLE.out
          clear hb hk hX hg HXr HK8
          have qc0 := HXE.out.cell 0; have qc1 := HXE.out.cell 1; have qc2 := HXE.out.cell 2; have qc3 := HXE.out.cell 3; have qc4 := HXE.out.cell 4; have qc5 := HXE.out.cell 5; have qc6 := HXE.out.cell 6; have qc7 := HXE.out.cell 7; have qc8 := HXE.out.cell 8; have qc9 := HXE.out.cell 9; have qc10 := HXE.out.cell 10; have qc11 := HXE.out.cell 11; have qc12 := HXE.out.cell 12; have qc13 := HXE.out.cell 13; have qc14 := HXE.out.cell 14; have qc15 := HXE.out.cell 15
          simp only [List.getElem?_toArray, List.getElem?_cons_zero, List.getElem?_cons_succ] at qc0 qc1 qc2 qc3 qc4 qc5 qc6 qc7 qc8 qc9 qc10 qc11 qc12 qc13 qc14 qc15
          go_wp2_with fail
          refine Calls.mono (HW2 _).out ?_
          rintro x wF ⟨rfl, hb⟩
          have HLF := Lib.hid (HLE.out.trans (Below.mono hb HLE.out.size))
          have HGS2 := Lib.hid (HGS.out.below hb)
          clear hb
          clear qc0 qc1 qc2 qc3 qc4 qc5 qc6 qc7 qc8 qc9 qc10 qc11 qc12 qc13 qc14 qc15
          go_upto_region 29 with fail
          obtain ⟨wG, hX⟩ : ∃ X, X = wF.alloc (.cells #[.int .i64 l0, .int .i64 l1, .int .i64 l2, .int .i64 l3, .int .i64 l4, .int .i64 l5, .int .i64 l6, .int .i64 l7] 81) := ⟨_, rfl⟩
          rw [← hX]
          obtain ⟨hk, hb⟩ := box_facts _ _ wG hX
          have HLG := Lib.hid (HLF.out.trans (Below.mono hb HLF.out.size))
          have HGS3 := Lib.hid (HGS2.out.below hb)
          obtain ⟨gl, hg⟩ : ∃ g, g = wF.heap.size := ⟨_, rfl⟩
          rw [← hg] at hk ⊢
          have HGL := Lib.hid hk
          have HXG : Hid (Blk wG gx 187 #[.int .i64 s0, .int .i64 s1, .int .i64 s2, .int .i64 s3, .int .i64 s4, .int .i64 s5, .int .i64 s6, .int .i64 s7, .int .i64 v0, .int .i64 v1, .int .i64 v2, .int .i64 v3, .int .i64 v4, .int .i64 v5, .int .i64 v6, .int .i64 v7]) := HX6.out.below HLG.out
          clear hb hk hX hg HXE HGS HGS2
          have qc0 := HXG.out.cell 0; have qc1 := HXG.out.cell 1; have qc2 := HXG.out.cell 2; have qc3 := HXG.out.cell 3; have qc4 := HXG.out.cell 4; have qc5 := HXG.out.cell 5; have qc6 := HXG.out.cell 6; have qc7 := HXG.out.cell 7
          simp only [List.getElem?_toArray, List.getElem?_cons_zero, List.getElem?_cons_succ] at qc0 qc1 qc2 qc3 qc4 qc5 qc6 qc7
          have rc0 := HGS3.out.cell 0; have rc1 := HGS3.out.cell 1; have rc2 := HGS3.out.cell 2; have rc3 := HGS3.out.cell 3; have rc4 := HGS3.out.cell 4; have rc5 := HGS3.out.cell 5; have rc6 := HGS3.out.cell 6; have rc7 := HGS3.out.cell 7
          simp only [List.getElem?_toArray, List.getElem?_cons_zero, List.getElem?_cons_succ] at rc0 rc1 rc2 rc3 rc4 rc5 rc6 rc7
          have tc0 := HGL.out.cell 0; have tc1 := HGL.out.cell 1; have tc2 := HGL.out.cell 2; have tc3 := HGL.out.cell 3; have tc4 := HGL.out.cell 4; have tc5 := HGL.out.cell 5; have tc6 := HGL.out.cell 6; have tc7 := HGL.out.cell 7
          simp only [List.getElem?_toArray, List.getElem?_cons_zero, List.getElem?_cons_succ] at tc0 tc1 tc2 tc3 tc4 tc5 tc6 tc7
          go_wp2
          clear qc0 qc1 qc2 qc3 qc4 qc5 qc6 qc7
          clear rc0 rc1 rc2 rc3 rc4 rc5 rc6 rc7
          clear tc0 tc1 tc2 tc3 tc4 tc5 tc6 tc7
          go_loop [31, 32, 196] (fun _ _ i => ∃ k : Nat, k ≤ 8 ∧ i = .int .i64 k) (fun _ _ i => 8 - (intOf i).toNat)
          case atStart => exact ⟨0, by omega, rfl⟩
          case round =>
            obtain ⟨k, hk, rfl⟩ := hrel
            by_cases hlt : k < 8
            · have hix := fun W => index8s k hlt l0 l1 l2 l3 l4 l5 l6 l7 W
              have hck : wG.cell? ⟨gx, k, none⟩ = some (.int .i64 ([s0, s1, s2, s3, s4, s5, s6, s7].getD k 0)) := by
                rw [HXG.out.cell k]
                match k, hlt with
                | 0, _ => rfl
                | 1, _ => rfl
                | 2, _ => rfl
                | 3, _ => rfl
                | 4, _ => rfl
                | 5, _ => rfl
                | 6, _ => rfl
                | 7, _ => rfl
              obtain ⟨b1, b2⟩ := HLB.out k hlt
              obtain ⟨L, hL⟩ : ∃ L, L = [l0, l1, l2, l3, l4, l5, l6, l7].getD k 0 := ⟨_, rfl⟩
              obtain ⟨M, hM⟩ : ∃ M, M = [s0, s1, s2, s3, s4, s5, s6, s7].getD k 0 := ⟨_, rfl⟩
              rw [← hL] at hix b1 b2
              rw [← hM] at hck b2
              have e1 : decide (L < 0) = false := by simp; omega
              have e2 : decide (M < L) = false := by simp; omega
              clear hL hM
              go_wp2
              go_round
              case rel => exact ⟨k + 1, by omega, by go_num⟩
              case measure => simp [intOf]; omega
            · obtain rfl : k = 8 := by omega
              have HBB : Hid (Below w.heap.size w wG) := HB6.out.trans (HLG.out.mono HB6.out.size)
              go_wp2_with fail
              refine Calls.mono (awake_any _ (HS.out.keep HBB.out) (HT.out.keep HBB.out)) ?_
              rintro x w9 ⟨rfl, hb⟩
              have HB9 := Lib.hid (HBB.out.trans (Below.mono hb HBB.out.size))
              clear hb
              go_wp2
              go_ret
              exact ⟨rfl, HB9.out⟩
end Go.Proofs.YtoipafnlcchmbaaGreatDoor
