/- SoundHours, walked. -/
import Derived.Test.YtoipafnlcchmbaaGreatDoorQPx
import Derived.Test.YtoipafnlcchmbaaGreatDoorS0
import Derived.Test.YtoipafnlcchmbaaGreatDoorS3
import Derived.Test.YtoipafnlcchmbaaGreatDoorQC
import Derived.Test.YtoipafnlcchmbaaGreatDoorQD
namespace Go.Proofs.YtoipafnlcchmbaaGreatDoor
open Go.RowKit

theorem refShortHeard_any (A : Option Addr) (n c : Nat) (w : World) (hn : n ≤ 140737488351232) :
    Calls Tryz.prog 51 #[.slice A n c] w fun e w' => e = .returned (.bool (decide (n ≤ 20 ∨ n = 1025))) ∧ w = w' := by
  obtain ⟨b, hb⟩ : ∃ b, b = decide (n ≤ 20 ∨ n = 1025) := ⟨_, rfl⟩
  rw [← hb]
  have HB := Lib.hid hb
  clear hb
  by_cases h : n ≤ 20
  · have h1 : decide ((n : Int) ≤ 20) = true := by simp; omega
    go_enter Tryz.func51, Tryz.ntmps51
    go_wp2
    go_ret
    exact ⟨ret_bool (by rw [HB.out]; simp [h]), rfl⟩
  · have h1 : decide ((n : Int) ≤ 20) = false := by simp; omega
    by_cases h2 : n = 1025
    · have h3 : ((n : Int) == 1025) = true := by simp [h2]
      have H2 := Lib.hid h2
      clear h2
      go_enter Tryz.func51, Tryz.ntmps51
      go_wp2
      go_ret
      exact ⟨ret_bool (by rw [HB.out]; simp [H2.out]), rfl⟩
    · have h3 : ((n : Int) == 1025) = false := by simp; omega
      go_enter Tryz.func51, Tryz.ntmps51
      go_wp2
      go_ret
      exact ⟨ret_bool (by rw [HB.out]; simp [h, h2]), rfl⟩


theorem aboveErr_head {xs : List Int} {l : Int} (h : checkEnergiesE xs ≠ 0) : aboveErr xs l = checkEnergiesE xs := by
  unfold aboveErr firstE
  rw [if_neg h]
theorem aboveErr_next {xs : List Int} {l : Int} (h : checkEnergiesE xs = 0) : aboveErr xs l = withinE l 0 120 := by
  unfold aboveErr
  rw [h]
  simp only [firstE, if_true]
  split <;> simp_all

set_option maxHeartbeats 4000000 in
set_option maxRecDepth 100000 in
theorem hours_walk (A B : Option Addr) (n c m d : Nat) (hs : List (Int × Int)) (xs : List Int) (l : Int) (w : World) (hx : HeardAt w A n hs) (hz : IntsAt w B m xs) (hB : B = none → d = 0) (hn : n ≤ 140737488351232) (hm : m ≤ 140737488351232) (hst : Steps w) (ht : Tab w) :
    Calls Tryz.prog 7 #[.slice A n c, .slice B m d, .int .i64 l] w fun x w' => x = .returned (.bool true) ∧ Below w.heap.size w w' := by
  have HX := Lib.hid hx
  have HZ := Lib.hid hz
  have HS := Lib.hid hst
  have HT := Lib.hid ht
  have HB := Lib.hid hB
  clear hx hz hst ht hB
  by_cases h1 : n ≤ 20 ∨ n = 1025
  · by_cases h2 : m ≤ 20 ∨ m = 1025
    · obtain ⟨PV, hPV⟩ : ∃ S, S = penVal hs := ⟨_, rfl⟩
      have HPV := Lib.hid hPV
      clear hPV
      obtain ⟨PE, hPE⟩ : ∃ S, S = penErr hs := ⟨_, rfl⟩
      have HPE := Lib.hid hPE
      clear hPE
      obtain ⟨MV, hMV⟩ : ∃ S, S = maxVal xs := ⟨_, rfl⟩
      have HMV := Lib.hid hMV
      clear hMV
      obtain ⟨MI, hMI⟩ : ∃ S, S = maxIdx xs := ⟨_, rfl⟩
      have HMI := Lib.hid hMI
      clear hMI
      obtain ⟨ME, hME⟩ : ∃ S, S = maxErr xs := ⟨_, rfl⟩
      have HME := Lib.hid hME
      clear hME
      obtain ⟨AV, hAV⟩ : ∃ S, S = aboveVal xs l := ⟨_, rfl⟩
      have HAV := Lib.hid hAV
      clear hAV
      obtain ⟨AE, hAE⟩ : ∃ S, S = aboveErr xs l := ⟨_, rfl⟩
      have HAE := Lib.hid hAE
      clear hAE
      obtain ⟨P, hP⟩ : ∃ S, S = penPre hs := ⟨_, rfl⟩
      have HP := Lib.hid hP
      clear hP
      obtain ⟨E, hE⟩ : ∃ S, S = checkEnergiesE xs := ⟨_, rfl⟩
      have HE := Lib.hid hE
      clear hE
      obtain ⟨L, hL⟩ : ∃ S, S = withinE l 0 120 := ⟨_, rfl⟩
      have HL := Lib.hid hL
      clear hL
      have HN : Hid (n ≤ 100000 ∧ m ≤ 100000) := by show _ ∧ _; omega
      have d1 : decide (n ≤ 20 ∨ n = 1025) = true := decide_eq_true h1
      have d2 : decide (m ≤ 20 ∨ m = 1025) = true := decide_eq_true h2
      have D1 := Lib.hid d1
      have D2 := Lib.hid d2
      have HB0 := Lib.hid (Below.refl w.heap.size w)
      clear d1 d2 h1 h2
      go_enter Tryz.func7, Tryz.ntmps7
      go_wp2_with fail
      refine Calls.mono (refShortHeard_any _ _ _ _ hn) ?_
      rintro x w' ⟨rfl, rfl⟩
      rw [D1.out]
      go_wp2_with fail
      refine Calls.mono (refShort_any _ _ _ _ hm) ?_
      rintro x w' ⟨rfl, rfl⟩
      rw [D2.out]
      go_wp2_with fail
      refine Calls.mono (heard_any _ _ _ _ _ HX.out HN.out.1) ?_
      rintro x w1 ⟨A1, c1, rfl, hI, hb⟩
      have HI := Lib.hid hI
      have HB1 := Lib.hid hb
      clear hI hb HB0
      go_wp2_with fail
      refine Calls.mono (Penalized_any _ _ _ _ _ hn HI.out) ?_
      rintro x w2 ⟨rfl, hb⟩
      rw [← HPV.out, ← HPE.out]
      have HB2 := Lib.hid (HB1.out.trans (Below.mono hb HB1.out.size))
      clear hb HB1 HI
      go_wp2_with fail
      refine Calls.mono (ints_any _ _ _ _ _ (HZ.out.keep HB2.out) HB.out HN.out.2) ?_
      rintro x w3 ⟨A3, c3, rfl, hI, hb⟩
      have HI := Lib.hid hI
      have HB3 := Lib.hid (HB2.out.trans (Below.mono hb HB2.out.size))
      clear hI hb HB2
      go_wp2_with fail
      refine Calls.mono (Maximum_any _ _ _ _ _ HI.out hm) ?_
      rintro x w4 ⟨rfl, hb⟩
      rw [← HMV.out, ← HMI.out, ← HME.out]
      have HB4 := Lib.hid (HB3.out.trans (Below.mono hb HB3.out.size))
      clear hb HB3 HI
      go_wp2_with fail
      refine Calls.mono (ints_any _ _ _ _ _ (HZ.out.keep HB4.out) HB.out HN.out.2) ?_
      rintro x w5 ⟨A5, c5, rfl, hI, hb⟩
      have HI := Lib.hid hI
      have HB5 := Lib.hid (HB4.out.trans (Below.mono hb HB4.out.size))
      clear hI hb HB4
      go_wp2_with fail
      refine Calls.mono (Above_any _ _ _ _ _ _ HI.out hm (HS.out.keep HB5.out)) ?_
      rintro x w6 ⟨rfl, hb⟩
      rw [← HAV.out, ← HAE.out]
      have HB6 := Lib.hid (HB5.out.trans (Below.mono hb HB5.out.size))
      clear hb HB5 HI
      go_wp2_with fail
      refine Calls.mono (refCheckHeard_any _ _ _ _ _ hn (HX.out.keep HB6.out)) ?_
      rintro x w7 ⟨rfl, hb⟩
      rw [← HP.out]
      have HB7 := Lib.hid (HB6.out.trans (Below.mono hb HB6.out.size))
      clear hb HB6
      go_wp2_with fail
      refine Calls.mono (refCheckEnergies_any _ _ _ _ _ hm (HZ.out.keep HB7.out)) ?_
      rintro x w' ⟨rfl, rfl⟩
      rw [← HE.out]
      go_wp2_with fail
      refine Calls.mono (refCheckLevel_any _ _) ?_
      rintro x w' ⟨rfl, rfl⟩
      rw [← HL.out]
      go_wp2_with fail
      refine Calls.mono (refFirst2 _ _ E L _ (by go_simp) (by go_simp)) ?_
      rintro x w' ⟨rfl, rfl⟩
      have hfp : firstE [E, L] = AE := by rw [HE.out, HL.out, HAE.out]; rfl
      rw [hfp]
      clear hfp
      have hb8 : Below w7.heap.size w7 (w7.alloc (.cells #[.int .i64 E, .int .i64 L] 3)) := (Below.refl _ _).alloc (Nat.le_refl _) _
      obtain ⟨w8, hw8⟩ : ∃ w8, w8 = w7.alloc (.cells #[.int .i64 E, .int .i64 L] 3) := ⟨_, rfl⟩
      rw [← hw8] at hb8 ⊢
      have HB8 := Lib.hid (HB7.out.trans (Below.mono hb8 HB7.out.size))
      clear hb8 hw8 HB7
      go_upto_region 9 with fail
      by_cases hP0 : P = 0
      · have HP0 := Lib.hid (HP.out.symm.trans hP0)
        have HV0 := Lib.hid (penPre_zero HP0.out)
        have R1 : Hid (PV = capE (sumL (penL hs))) := by show _ = _; rw [HPV.out]; unfold penVal; rw [if_pos HP0.out]
        have R2 : Hid (PE = overE (sumL (penL hs))) := by show _ = _; rw [HPE.out]; unfold penErr; rw [if_pos HP0.out]
        subst hP0
        go_wp2_with fail
        refine Calls.mono (refPenalized_any _ _ _ hs _ (HX.out.keep HB8.out) HV0.out) ?_
        rintro x w9 ⟨rfl, q, hw⟩
        rw [← R1.out, ← R2.out]
        have HB9 : Hid (Below w.heap.size w w9) := by show Below _ _ _; rw [hw]; exact below_drewN' HB8.out q
        clear hw HB8
        go_upto_region 11 with fail
        by_cases hE0 : E = 0
        · have HE0 := Lib.hid (HE.out.symm.trans hE0)
          subst hE0
          go_wp2_with fail
          refine Calls.mono (refMaximum_any _ _ _ xs _ (HZ.out.keep HB9.out) hm HE0.out) ?_
          rintro x w10 ⟨rfl, q, hw⟩
          rw [← HMV.out, ← HMI.out, ← HME.out]
          have HB10 : Hid (Below w.heap.size w w10) := by show Below _ _ _; rw [hw]; exact below_drewN' HB9.out q
          clear hw HB9
          go_upto_region 13 with fail
          by_cases hL0 : L = 0
          · have hl0 := withinE_zero (HL.out.symm.trans hL0)
            have hAE : AE = 0 := by rw [HAE.out, aboveErr_next HE0.out, ← HL.out]; exact hL0
            obtain ⟨q, rfl⟩ : ∃ q : Nat, l = (q : Int) := ⟨l.toNat, by omega⟩
            have RA : Hid (AV = (cntTo xs (thr q) m : Int)) := by
              show _ = _
              rw [HAV.out]; unfold aboveVal; rw [if_pos (by rw [← HAE.out]; exact hAE), Int.toNat_natCast, HZ.out.1]
            have hq : q ≤ 120 := by omega
            subst hAE
            clear hl0 hL0
            go_wp2_with fail
            refine Calls.mono (refAbove_any _ _ _ xs q _ (HZ.out.keep HB10.out) hm hq) ?_
            rintro x w11 ⟨rfl, hb⟩
            rw [← RA.out]
            have HB11 := Lib.hid (HB10.out.trans (Below.mono hb HB10.out.size))
            clear hb HB10
            go_wp2_with fail
            refine Calls.mono (awake_any _ (HS.out.keep HB11.out) (HT.out.keep HB11.out)) ?_
            rintro x w99 ⟨rfl, hb⟩
            have HB99 := Lib.hid (HB11.out.trans (Below.mono hb HB11.out.size))
            clear hb
            go_wp2
            go_ret
            exact ⟨rfl, HB99.out⟩
          · have hAE : AE = L := by rw [HAE.out, aboveErr_next HE0.out, ← HL.out]
            have r3 : AV = 0 := by rw [HAV.out]; unfold aboveVal; rw [if_neg (by rw [← HAE.out, hAE]; exact hL0)]
            have p3 : (L == 0) = false := by simp [hL0]
            subst hAE r3
            clear hL0
            go_wp2_with fail
            refine Calls.mono (awake_any _ (HS.out.keep HB10.out) (HT.out.keep HB10.out)) ?_
            rintro x w99 ⟨rfl, hb⟩
            have HB99 := Lib.hid (HB10.out.trans (Below.mono hb HB10.out.size))
            clear hb
            go_wp2
            go_ret
            exact ⟨rfl, HB99.out⟩
        · have hne : checkEnergiesE xs ≠ 0 := by rw [← HE.out]; exact hE0
          have m1 : MV = 0 := by rw [HMV.out]; unfold maxVal; rw [if_neg hne]
          have m2 : MI = 0 := by rw [HMI.out]; unfold maxIdx; rw [if_neg hne]
          have m3 : E = ME := by rw [HME.out, HE.out]; unfold maxErr; rw [if_neg hne]
          have p2 : (E == 0) = false := by simp [hE0]
          subst m1 m2 m3
          have hAE : AE = E := by rw [HAE.out, HE.out]; exact aboveErr_head hne
          have r3 : AV = 0 := by rw [HAV.out]; unfold aboveVal; rw [if_neg (by rw [← HAE.out, hAE]; exact hE0)]
          subst hAE r3
          clear hE0 hne
          go_wp2_with fail
          refine Calls.mono (awake_any _ (HS.out.keep HB9.out) (HT.out.keep HB9.out)) ?_
          rintro x w99 ⟨rfl, hb⟩
          have HB99 := Lib.hid (HB9.out.trans (Below.mono hb HB9.out.size))
          clear hb
          go_wp2
          go_ret
          exact ⟨rfl, HB99.out⟩
      · have hpe : penPre hs ≠ 0 := by rw [← HP.out]; exact hP0
        have q1 : PV = 0 := by rw [HPV.out]; unfold penVal; rw [if_neg hpe]
        have q2 : PE = P := by rw [HPE.out, HP.out]; unfold penErr; rw [if_neg hpe]
        have p1 : (P == 0) = false := by simp [hP0]
        subst q1 q2
        clear hpe hP0
        go_upto_region 11 with fail
        by_cases hE0 : E = 0
        · have HE0 := Lib.hid (HE.out.symm.trans hE0)
          subst hE0
          go_wp2_with fail
          refine Calls.mono (refMaximum_any _ _ _ xs _ (HZ.out.keep HB8.out) hm HE0.out) ?_
          rintro x w9 ⟨rfl, q, hw⟩
          rw [← HMV.out, ← HMI.out, ← HME.out]
          have HB9 : Hid (Below w.heap.size w w9) := by show Below _ _ _; rw [hw]; exact below_drewN' HB8.out q
          clear hw HB8
          go_upto_region 13 with fail
          by_cases hL0 : L = 0
          · have hl0 := withinE_zero (HL.out.symm.trans hL0)
            have hAE : AE = 0 := by rw [HAE.out, aboveErr_next HE0.out, ← HL.out]; exact hL0
            obtain ⟨q, rfl⟩ : ∃ q : Nat, l = (q : Int) := ⟨l.toNat, by omega⟩
            have RA : Hid (AV = (cntTo xs (thr q) m : Int)) := by
              show _ = _
              rw [HAV.out]; unfold aboveVal; rw [if_pos (by rw [← HAE.out]; exact hAE), Int.toNat_natCast, HZ.out.1]
            have hq : q ≤ 120 := by omega
            subst hAE
            clear hl0 hL0
            go_wp2_with fail
            refine Calls.mono (refAbove_any _ _ _ xs q _ (HZ.out.keep HB9.out) hm hq) ?_
            rintro x w10 ⟨rfl, hb⟩
            rw [← RA.out]
            have HB10 := Lib.hid (HB9.out.trans (Below.mono hb HB9.out.size))
            clear hb HB9
            go_wp2_with fail
            refine Calls.mono (awake_any _ (HS.out.keep HB10.out) (HT.out.keep HB10.out)) ?_
            rintro x w99 ⟨rfl, hb⟩
            have HB99 := Lib.hid (HB10.out.trans (Below.mono hb HB10.out.size))
            clear hb
            go_wp2
            go_ret
            exact ⟨rfl, HB99.out⟩
          · have hAE : AE = L := by rw [HAE.out, aboveErr_next HE0.out, ← HL.out]
            have r3 : AV = 0 := by rw [HAV.out]; unfold aboveVal; rw [if_neg (by rw [← HAE.out, hAE]; exact hL0)]
            have p3 : (L == 0) = false := by simp [hL0]
            subst hAE r3
            clear hL0
            go_wp2_with fail
            refine Calls.mono (awake_any _ (HS.out.keep HB9.out) (HT.out.keep HB9.out)) ?_
            rintro x w99 ⟨rfl, hb⟩
            have HB99 := Lib.hid (HB9.out.trans (Below.mono hb HB9.out.size))
            clear hb
            go_wp2
            go_ret
            exact ⟨rfl, HB99.out⟩
        · have hne : checkEnergiesE xs ≠ 0 := by rw [← HE.out]; exact hE0
          have m1 : MV = 0 := by rw [HMV.out]; unfold maxVal; rw [if_neg hne]
          have m2 : MI = 0 := by rw [HMI.out]; unfold maxIdx; rw [if_neg hne]
          have m3 : E = ME := by rw [HME.out, HE.out]; unfold maxErr; rw [if_neg hne]
          have p2 : (E == 0) = false := by simp [hE0]
          subst m1 m2 m3
          have hAE : AE = E := by rw [HAE.out, HE.out]; exact aboveErr_head hne
          have r3 : AV = 0 := by rw [HAV.out]; unfold aboveVal; rw [if_neg (by rw [← HAE.out, hAE]; exact hE0)]
          subst hAE r3
          clear hE0 hne
          go_wp2_with fail
          refine Calls.mono (awake_any _ (HS.out.keep HB8.out) (HT.out.keep HB8.out)) ?_
          rintro x w99 ⟨rfl, hb⟩
          have HB99 := Lib.hid (HB8.out.trans (Below.mono hb HB8.out.size))
          clear hb
          go_wp2
          go_ret
          exact ⟨rfl, HB99.out⟩
    · have d1 : decide (n ≤ 20 ∨ n = 1025) = true := decide_eq_true h1
      have d2 : decide (m ≤ 20 ∨ m = 1025) = false := decide_eq_false h2
      have D1 := Lib.hid d1
      have D2 := Lib.hid d2
      have HB6 := Lib.hid (Below.refl w.heap.size w)
      clear d1 d2 h1 h2 HX HZ HB
      go_enter Tryz.func7, Tryz.ntmps7
      go_wp2_with fail
      refine Calls.mono (refShortHeard_any _ _ _ _ hn) ?_
      rintro x w' ⟨rfl, rfl⟩
      rw [D1.out]
      go_wp2_with fail
      refine Calls.mono (refShort_any _ _ _ _ hm) ?_
      rintro x w' ⟨rfl, rfl⟩
      rw [D2.out]
      go_wp2_with fail
      refine Calls.mono (awake_any _ (HS.out.keep HB6.out) (HT.out.keep HB6.out)) ?_
      rintro x w99 ⟨rfl, hb⟩
      have HB99 := Lib.hid (HB6.out.trans (Below.mono hb HB6.out.size))
      clear hb
      go_wp2
      go_ret
      exact ⟨rfl, HB99.out⟩
  · have d1 : decide (n ≤ 20 ∨ n = 1025) = false := decide_eq_false h1
    have D1 := Lib.hid d1
    have HB6 := Lib.hid (Below.refl w.heap.size w)
    clear d1 h1 HX HZ HB
    go_enter Tryz.func7, Tryz.ntmps7
    go_wp2_with fail
    refine Calls.mono (refShortHeard_any _ _ _ _ hn) ?_
    rintro x w' ⟨rfl, rfl⟩
    rw [D1.out]
    go_wp2_with fail
    refine Calls.mono (awake_any _ (HS.out.keep HB6.out) (HT.out.keep HB6.out)) ?_
    rintro x w99 ⟨rfl, hb⟩
    have HB99 := Lib.hid (HB6.out.trans (Below.mono hb HB6.out.size))
    clear hb
    go_wp2
    go_ret
    exact ⟨rfl, HB99.out⟩
end Go.Proofs.YtoipafnlcchmbaaGreatDoor
