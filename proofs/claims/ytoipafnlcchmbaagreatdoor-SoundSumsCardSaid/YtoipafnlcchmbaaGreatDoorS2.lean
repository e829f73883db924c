/- SoundSums, walked. -/
import Derived.Test.YtoipafnlcchmbaaGreatDoorQPx
import Derived.Test.YtoipafnlcchmbaaGreatDoorS0
import Derived.Test.YtoipafnlcchmbaaGreatDoorQC
namespace Go.Proofs.YtoipafnlcchmbaaGreatDoor
open Go.RowKit

theorem avgPre_head {xs ts : List Int} (h : checkEnergiesE xs ≠ 0) : avgPre xs ts = checkEnergiesE xs := by
  unfold avgPre firstE
  rw [if_neg h]

set_option maxHeartbeats 4000000 in
set_option maxRecDepth 100000 in
theorem sums_walk (A B : Option Addr) (n c m d : Nat) (xs ts : List Int) (w : World) (hx : IntsAt w A n xs) (hz : IntsAt w B m ts) (hA : A = none → c = 0) (hB : B = none → d = 0) (hn : n ≤ 140737488351232) (hm : m ≤ 140737488351232) (hs : Steps w) (ht : Tab w) :
    Calls Tryz.prog 6 #[.slice A n c, .slice B m d] w fun x w' => x = .returned (.bool true) ∧ Below w.heap.size w w' := by
  have HX := Lib.hid hx
  have HZ := Lib.hid hz
  have HS := Lib.hid hs
  have HT := Lib.hid ht
  have HA := Lib.hid hA
  have HB := Lib.hid hB
  clear hx hz hs ht hA hB
  by_cases h1 : n ≤ 20 ∨ n = 1025
  · by_cases h2 : m ≤ 20 ∨ m = 1025
    · obtain ⟨S, hS⟩ : ∃ S, S = sumVal xs := ⟨_, rfl⟩
      obtain ⟨SE, hSE⟩ : ∃ S, S = sumErr xs := ⟨_, rfl⟩
      obtain ⟨V, hV⟩ : ∃ S, S = avgVal xs ts := ⟨_, rfl⟩
      obtain ⟨VE, hVE⟩ : ∃ S, S = avgErr xs ts := ⟨_, rfl⟩
      obtain ⟨E, hE⟩ : ∃ S, S = checkEnergiesE xs := ⟨_, rfl⟩
      obtain ⟨K, hK⟩ : ∃ S, S = checkTicksE ts xs.length := ⟨_, rfl⟩
      obtain ⟨P, hP⟩ : ∃ S, S = avgPre xs ts := ⟨_, rfl⟩
      have HSV := Lib.hid hS
      have HSE := Lib.hid hSE
      have HV := Lib.hid hV
      have HVE := Lib.hid hVE
      have HE := Lib.hid hE
      have HK := Lib.hid hK
      have HP := Lib.hid hP
      have HN : Hid (n ≤ 100000 ∧ m ≤ 100000) := by show _ ∧ _; omega
      have d1 : decide (n ≤ 20 ∨ n = 1025) = true := decide_eq_true h1
      have d2 : decide (m ≤ 20 ∨ m = 1025) = true := decide_eq_true h2
      have D1 := Lib.hid d1
      have D2 := Lib.hid d2
      clear hS hSE hV hVE hE hK hP d1 d2 h1 h2
      go_enter Tryz.func6, Tryz.ntmps6
      go_wp2_with fail
      refine Calls.mono (refShort_any _ _ _ _ hn) ?_
      rintro x w' ⟨rfl, rfl⟩
      rw [D1.out]
      go_wp2_with fail
      refine Calls.mono (refShort_any _ _ _ _ hm) ?_
      rintro x w' ⟨rfl, rfl⟩
      rw [D2.out]
      go_wp2_with fail
      refine Calls.mono (ints_any _ _ _ _ _ HX.out HA.out HN.out.1) ?_
      rintro x w1 ⟨A1, c1, rfl, hI, hb⟩
      have HI := Lib.hid hI
      have HB1 := Lib.hid hb
      clear hI hb
      go_wp2_with fail
      refine Calls.mono (Sum_any _ _ _ _ _ HI.out hn) ?_
      rintro x w2 ⟨rfl, hb⟩
      rw [← HSV.out, ← HSE.out]
      have HB2 := Lib.hid (HB1.out.trans (Below.mono hb HB1.out.size))
      clear hb HB1 HI
      go_wp2_with fail
      refine Calls.mono (ints_any _ _ _ _ _ (HX.out.keep HB2.out) HA.out HN.out.1) ?_
      rintro x w3 ⟨A3, c3, rfl, hI, hb⟩
      have HI3 := Lib.hid hI
      have HB3 := Lib.hid (HB2.out.trans (Below.mono hb HB2.out.size))
      clear hI hb HB2
      go_wp2_with fail
      refine Calls.mono (ints_any _ _ _ _ _ (HZ.out.keep HB3.out) HB.out HN.out.2) ?_
      rintro x w4 ⟨A4, c4, rfl, hI, hb⟩
      have HI4 := Lib.hid hI
      have HJ4 := Lib.hid (HI3.out.keep hb)
      have HB4 := Lib.hid (HB3.out.trans (Below.mono hb HB3.out.size))
      clear hI hb HB3 HI3
      go_wp2_with fail
      refine Calls.mono (Average_any _ _ _ _ _ _ _ _ _ hn hm HJ4.out HI4.out) ?_
      rintro x w5 ⟨rfl, hb⟩
      rw [← HV.out, ← HVE.out]
      have HB5 := Lib.hid (HB4.out.trans (Below.mono hb HB4.out.size))
      clear hb HB4 HI4 HJ4
      go_wp2_with fail
      refine Calls.mono (refCheckEnergies_any _ _ _ _ _ hn (HX.out.keep HB5.out)) ?_
      rintro x w' ⟨rfl, rfl⟩
      rw [← HE.out]
      go_wp2_with fail
      refine Calls.mono (refCheckTicks_any _ _ _ _ _ _ _ _ _ hn hm (HX.out.keep HB5.out) (HZ.out.keep HB5.out)) ?_
      rintro x w' ⟨rfl, rfl⟩
      rw [← HK.out]
      go_wp2_with fail
      refine Calls.mono (refFirst2 _ _ E K _ (by go_simp) (by go_simp)) ?_
      rintro x w' ⟨rfl, rfl⟩
      have hfp : firstE [E, K] = P := by rw [HE.out, HK.out, HP.out]; rfl
      rw [hfp]
      clear hfp
      have hb6 : Below w5.heap.size w5 (w5.alloc (.cells #[.int .i64 E, .int .i64 K] 3)) := (Below.refl _ _).alloc (Nat.le_refl _) _
      obtain ⟨w6, hw6⟩ : ∃ w6, w6 = w5.alloc (.cells #[.int .i64 E, .int .i64 K] 3) := ⟨_, rfl⟩
      rw [← hw6] at hb6 ⊢
      have HB6 := Lib.hid (HB5.out.trans (Below.mono hb6 HB5.out.size))
      clear hb6 hw6 HB5
      go_upto_region 8 with fail
      by_cases hE0 : E = 0
      · have HE0 := Lib.hid (HE.out.symm.trans hE0)
        have hV0 : ValidE xs := validE_of HE0.out
        have hn2 : n ≤ 1024 := by have := hV0.1; rw [HX.out.1] at this; exact this
        have R1 : Hid (S = capE (sumL xs)) := by show _ = _; rw [HSV.out]; unfold sumVal; rw [if_pos HE0.out]
        have R2 : Hid (SE = overE (sumL xs)) := by show _ = _; rw [HSE.out]; unfold sumErr; rw [if_pos HE0.out]
        have HVD := Lib.hid hV0
        subst hE0
        clear hV0
        go_wp2_with fail
        refine Calls.mono (refSum_any _ _ _ xs _ (HX.out.keep HB6.out) hn2 (fun i hi => by have := HVD.out.2 i hi; omega)) ?_
        rintro x w' ⟨rfl, rfl⟩
        rw [← R1.out, ← R2.out]
        go_upto_region 10 with fail
        by_cases hP0 : P = 0
        · have HP0 := Lib.hid (HP.out.symm.trans hP0)
          subst hP0
          go_wp2_with fail
          refine Calls.mono (refAverage_any _ _ _ _ _ _ xs ts _ (HX.out.keep HB6.out) (HZ.out.keep HB6.out) HP0.out) ?_
          rintro x w7 ⟨rfl, q, hw⟩
          rw [← HV.out, ← HVE.out]
          have HB7 : Hid (Below w.heap.size w w7) := by show Below _ _ _; rw [hw]; exact below_drewN' HB6.out q
          clear hw HB6
          go_wp2_with fail
          refine Calls.mono (awake_any _ (HS.out.keep HB7.out) (HT.out.keep HB7.out)) ?_
          rintro x w9 ⟨rfl, hb⟩
          have HB9 := Lib.hid (HB7.out.trans (Below.mono hb HB7.out.size))
          clear hb
          go_wp2
          go_ret
          exact ⟨rfl, HB9.out⟩
        · have hp0 : avgPre xs ts ≠ 0 := by rw [← HP.out]; exact hP0
          have r3 : V = 0 := by rw [HV.out]; unfold avgVal; rw [if_neg hp0]
          have r4 : VE = P := by rw [HVE.out, HP.out]; unfold avgErr; rw [if_neg hp0]
          have p1 : (P == 0) = false := by simp [hP0]
          subst r3 r4
          clear hp0 hP0
          go_wp2_with fail
          refine Calls.mono (awake_any _ (HS.out.keep HB6.out) (HT.out.keep HB6.out)) ?_
          rintro x w9 ⟨rfl, hb⟩
          have HB9 := Lib.hid (HB6.out.trans (Below.mono hb HB6.out.size))
          clear hb
          go_wp2
          go_ret
          exact ⟨rfl, HB9.out⟩
      · have he : checkEnergiesE xs ≠ 0 := by rw [← HE.out]; exact hE0
        have hPE : P = E := by rw [HP.out, HE.out]; exact avgPre_head he
        have hp0 : avgPre xs ts ≠ 0 := by rw [← HP.out, hPE]; exact hE0
        have r1 : S = 0 := by rw [HSV.out]; unfold sumVal; rw [if_neg he]
        have r2 : SE = E := by rw [HSE.out, HE.out]; unfold sumErr; rw [if_neg he]
        have r3 : V = 0 := by rw [HV.out]; unfold avgVal; rw [if_neg hp0]
        have r4 : VE = E := by rw [HVE.out, ← hPE, HP.out]; unfold avgErr; rw [if_neg hp0]
        have p1 : (E == 0) = false := by simp [hE0]
        clear he hp0 hE0
        subst r1 r2 r3 r4 hPE
        go_wp2_with fail
        refine Calls.mono (awake_any _ (HS.out.keep HB6.out) (HT.out.keep HB6.out)) ?_
        rintro x w9 ⟨rfl, hb⟩
        have HB9 := Lib.hid (HB6.out.trans (Below.mono hb HB6.out.size))
        clear hb
        go_wp2
        go_ret
        exact ⟨rfl, HB9.out⟩
    · have d1 : decide (n ≤ 20 ∨ n = 1025) = true := decide_eq_true h1
      have d2 : decide (m ≤ 20 ∨ m = 1025) = false := decide_eq_false h2
      have D1 := Lib.hid d1
      have D2 := Lib.hid d2
      have HB6 := Lib.hid (Below.refl w.heap.size w)
      clear d1 d2 h1 h2 HX HZ HA HB
      go_enter Tryz.func6, Tryz.ntmps6
      go_wp2_with fail
      refine Calls.mono (refShort_any _ _ _ _ hn) ?_
      rintro x w' ⟨rfl, rfl⟩
      rw [D1.out]
      go_wp2_with fail
      refine Calls.mono (refShort_any _ _ _ _ hm) ?_
      rintro x w' ⟨rfl, rfl⟩
      rw [D2.out]
      go_wp2_with fail
      refine Calls.mono (awake_any _ (HS.out.keep HB6.out) (HT.out.keep HB6.out)) ?_
      rintro x w9 ⟨rfl, hb⟩
      have HB9 := Lib.hid (HB6.out.trans (Below.mono hb HB6.out.size))
      clear hb
      go_wp2
      go_ret
      exact ⟨rfl, HB9.out⟩
  · have d1 : decide (n ≤ 20 ∨ n = 1025) = false := decide_eq_false h1
    have D1 := Lib.hid d1
    have HB6 := Lib.hid (Below.refl w.heap.size w)
    clear d1 h1 HX HZ HA HB
    go_enter Tryz.func6, Tryz.ntmps6
    go_wp2_with fail
    refine Calls.mono (refShort_any _ _ _ _ hn) ?_
    rintro x w' ⟨rfl, rfl⟩
    rw [D1.out]
    go_wp2_with fail
    refine Calls.mono (awake_any _ (HS.out.keep HB6.out) (HT.out.keep HB6.out)) ?_
    rintro x w9 ⟨rfl, hb⟩
    have HB9 := Lib.hid (HB6.out.trans (Below.mono hb HB6.out.size))
    clear hb
    go_wp2
    go_ret
    exact ⟨rfl, HB9.out⟩
end Go.Proofs.YtoipafnlcchmbaaGreatDoor
