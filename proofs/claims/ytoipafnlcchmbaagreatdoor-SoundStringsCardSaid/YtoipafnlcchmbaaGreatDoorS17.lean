/- SoundStrings, walked. -/
import Derived.Test.YtoipafnlcchmbaaGreatDoorQPx
import Derived.Test.YtoipafnlcchmbaaGreatDoorS0
import Derived.Test.YtoipafnlcchmbaaGreatDoorQOu
namespace Go.Proofs.YtoipafnlcchmbaaGreatDoor
open Go.RowKit

set_option maxHeartbeats 8000000 in
set_option maxRecDepth 100000 in
theorem strings_walk (A : Option Addr) (n c : Nat) (xs : List Int) (s : ByteArray) (w : World) (hx : IntsAt w A n xs) (hA : A = none → c = 0) (hn : n ≤ 140737488351232) (hss : s.size ≤ 140737488351232) (hs : Steps w) (ht : Tab w) :
    Calls Tryz.prog 12 #[.slice A n c, .string s] w fun x w' => x = .returned (.bool true) ∧ Below w.heap.size w w' := by
  have HX := Lib.hid hx
  have HS := Lib.hid hs
  have HT := Lib.hid ht
  have HA := Lib.hid hA
  have HSS := Lib.hid hss
  clear hx hs ht hA
  by_cases h1 : n ≤ 20 ∨ n = 1025
  · by_cases h2 : s.size ≤ 300 ∨ s.size = 4097
    · obtain ⟨E, hE⟩ : ∃ S, S = checkEnergiesE xs := ⟨_, rfl⟩
      obtain ⟨PV, hPV⟩ : ∃ S, S = printVal xs := ⟨_, rfl⟩
      obtain ⟨PE, hPE⟩ : ∃ S, S = printErr xs := ⟨_, rfl⟩
      have HE := Lib.hid hE
      have HPV := Lib.hid hPV
      have HPE := Lib.hid hPE
      have HN : Hid (n ≤ 100000) := by show _ ≤ _; omega
      have D1 : Hid (decide (n ≤ 20 ∨ n = 1025) = true) := decide_eq_true h1
      have HP := fun W => Lib.hid (Parse_any s W hss)
      have HRP := fun W => Lib.hid (refParse_any s W hss)
      unfold ParsePost at HP HRP
      obtain ⟨R, hR⟩ : ∃ R, R = parseR s := ⟨_, rfl⟩
      rw [← hR] at HP HRP
      obtain ⟨rl, ri, re⟩ := R
      dsimp only at HP HRP
      obtain ⟨rn, hrn⟩ : ∃ rn, rn = rl.length := ⟨_, rfl⟩
      rw [← hrn] at HP HRP
      have hrn2 : Hid (rn ≤ 140737488351232) := by
        show _ ≤ _
        have h3 := countR_len energiesL energyL s
        have h4 := parseW_count energiesL energyL checkEnergiesE s.data.toList _ rfl
        rw [show parseW energiesL energyL checkEnergiesE s.data.toList = (rl, ri, re) from hR.symm] at h4
        have h5 : rl.length ≤ 5000 := by
          by_cases g1 : (countR energiesL energyL s.data.toList).2.2 ≠ 0
          · rw [if_pos g1] at h4; rw [← h4] at h3; exact h3
          · rw [if_neg g1] at h4
            by_cases g2 : checkEnergiesE (countR energiesL energyL s.data.toList).1 ≠ 0
            · rw [if_pos g2] at h4; rw [(Prod.mk.inj h4).1]; simp
            · rw [if_neg g2] at h4; rw [(Prod.mk.inj h4).1]; exact h3
        omega
      have dd : (decide ((300 : Int) < (s.size : Int)) = false) ∨ (decide ((300 : Int) < (s.size : Int)) = true ∧ ((s.size : Int) != 4097) = false) := by
        rcases h2 with h2 | h2
        · left; simp; omega
        · right; rw [h2]; exact ⟨by decide, by decide⟩
      clear hE hPV hPE h1 h2 hR hrn hss
      rcases dd with d2 | ⟨d2, d3⟩
      all_goals
        go_enter Tryz.func12, Tryz.ntmps12
        go_wp2_with fail
        refine Calls.mono (refShort_any _ _ _ _ hn) ?_
        rintro x w' ⟨rfl, rfl⟩
        rw [D1.out]
        go_wp2_with fail
        refine Calls.mono (ints_any _ _ _ _ _ HX.out HA.out HN.out) ?_
        rintro x w1 ⟨A1, c1, rfl, hI, hb⟩
        have HI := Lib.hid hI
        have HB1 := Lib.hid hb
        clear hI hb d2
        try clear d3
        go_wp2_with fail
        refine Calls.mono (Print_any _ _ _ _ _ hn HI.out (HT.out.keep HB1.out)) ?_
        rintro x w2 ⟨rfl, hb⟩
        rw [← HPV.out, ← HPE.out]
        have HB2 := Lib.hid (HB1.out.trans (Below.mono hb HB1.out.size))
        clear hb HB1 HI
        go_wp2_with fail
        refine Calls.mono (HP _).out ?_
        rintro x w3 ⟨A3, c3, rfl, hI3, hA3, hb⟩
        have HI3 := Lib.hid hI3
        have HB3 := Lib.hid (HB2.out.trans (Below.mono hb HB2.out.size))
        clear hb HB2 hI3 hA3
        go_wp2_with fail
        refine Calls.mono (refCheckEnergies_any _ _ _ _ _ hn (HX.out.keep HB3.out)) ?_
        rintro x w' ⟨rfl, rfl⟩
        rw [← HE.out]
        go_upto_region 6 with fail
        by_cases hE0 : E = 0
        · have hV0 : ValidE xs := validE_of (HE.out.symm.trans hE0)
          have HVD := Lib.hid hV0
          have R1 : Hid (joinedV (fullB xs) = PV) := by show _ = _; rw [HPV.out]; unfold printVal; rw [if_pos (by rw [← HE.out]; exact hE0)]
          have R2 : Hid (joinedE (fullB xs) = PE) := by show _ = _; rw [HPE.out]; unfold printErr; rw [if_pos (by rw [← HE.out]; exact hE0)]
          subst hE0
          clear hV0
          go_wp2_with fail
          refine Calls.mono (refPrint_any _ _ _ _ _ (HX.out.keep HB3.out) HVD.out) ?_
          rintro x w4 ⟨rfl, hb⟩
          rw [R1.out, R2.out]
          have HB4 := Lib.hid (HB3.out.trans (Below.mono hb HB3.out.size))
          have HI4 := Lib.hid (HI3.out.keep hb)
          clear hb
          go_wp2_with fail
          refine Calls.mono (HRP _).out ?_
          rintro x w5 ⟨A5, c5, rfl, hI5, hA5, hb⟩
          have HI5 := Lib.hid hI5
          have HI6 := Lib.hid (HI4.out.keep hb)
          have HB5 := Lib.hid (HB4.out.trans (Below.mono hb HB4.out.size))
          clear hb hI5 hA5
          have HSI := Lib.hid (sameInts_any _ _ _ _ c3 c5 _ _ _ hrn2.out hrn2.out HI6.out HI5.out)
          rw [sameB_true rfl] at HSI
          go_wp2_with fail
          refine Calls.mono HSI.out ?_
          rintro x w6 ⟨rfl, q, hw⟩
          have HB6 : Hid (Below w.heap.size w w6) := by show Below _ _ _; rw [hw]; exact below_drewN' HB5.out q
          clear hw HB5
          go_wp2_with fail
          refine Calls.mono (awake_any _ (HS.out.keep HB6.out) (HT.out.keep HB6.out)) ?_
          rintro x w9 ⟨rfl, hb⟩
          have HB9 := Lib.hid (HB6.out.trans (Below.mono hb HB6.out.size))
          clear hb
          go_wp2
          go_ret
          exact ⟨rfl, HB9.out⟩
        · have r1 : PV = ⟨#[]⟩ := by rw [HPV.out]; unfold printVal; rw [if_neg (by rw [← HE.out]; exact hE0)]
          have r2 : PE = E := by rw [HPE.out]; unfold printErr; rw [if_neg (by rw [← HE.out]; exact hE0), HE.out]
          have p1 : (E == 0) = false := by simp [hE0]
          clear hE0
          subst r1 r2
          go_wp2_with fail
          refine Calls.mono (HRP _).out ?_
          rintro x w5 ⟨A5, c5, rfl, hI5, hA5, hb⟩
          have HI5 := Lib.hid hI5
          have HI6 := Lib.hid (HI3.out.keep hb)
          have HB5 := Lib.hid (HB3.out.trans (Below.mono hb HB3.out.size))
          clear hb hI5 hA5
          have HSI := Lib.hid (sameInts_any _ _ _ _ c3 c5 _ _ _ hrn2.out hrn2.out HI6.out HI5.out)
          rw [sameB_true rfl] at HSI
          go_wp2_with fail
          refine Calls.mono HSI.out ?_
          rintro x w6 ⟨rfl, q, hw⟩
          have HB6 : Hid (Below w.heap.size w w6) := by show Below _ _ _; rw [hw]; exact below_drewN' HB5.out q
          clear hw HB5
          go_wp2_with fail
          refine Calls.mono (awake_any _ (HS.out.keep HB6.out) (HT.out.keep HB6.out)) ?_
          rintro x w9 ⟨rfl, hb⟩
          have HB9 := Lib.hid (HB6.out.trans (Below.mono hb HB6.out.size))
          clear hb
          go_wp2
          go_ret
          exact ⟨rfl, HB9.out⟩
    · have D1 : Hid (decide (n ≤ 20 ∨ n = 1025) = true) := decide_eq_true h1
      have d2 : decide ((300 : Int) < (s.size : Int)) = true := by simp; omega
      have d3 : ((s.size : Int) != 4097) = true := by simp; omega
      have HB6 := Lib.hid (Below.refl w.heap.size w)
      clear h1 h2 HX HA
      go_enter Tryz.func12, Tryz.ntmps12
      go_wp2_with fail
      refine Calls.mono (refShort_any _ _ _ _ hn) ?_
      rintro x w' ⟨rfl, rfl⟩
      rw [D1.out]
      go_wp2_with fail
      refine Calls.mono (awake_any _ (HS.out.keep HB6.out) (HT.out.keep HB6.out)) ?_
      rintro x w9 ⟨rfl, hb⟩
      have HB9 := Lib.hid (HB6.out.trans (Below.mono hb HB6.out.size))
      clear hb
      go_wp2
      go_ret
      exact ⟨rfl, HB9.out⟩
  · have D1 : Hid (decide (n ≤ 20 ∨ n = 1025) = false) := decide_eq_false h1
    have HB6 := Lib.hid (Below.refl w.heap.size w)
    clear h1 HX HA
    go_enter Tryz.func12, Tryz.ntmps12
    go_wp2_with fail
    refine Calls.mono (refShort_any _ _ _ _ hn) ?_
    rintro x w' ⟨rfl, rfl⟩
    rw [D1.out]
    go_wp2_with fail
    refine Calls.mono (awake_any _ (HS.out.keep HB6.out) (HT.out.keep HB6.out)) ?_
    rintro x w9 ⟨rfl, hb⟩
    have HB9 := Lib.hid (HB6.out.trans (Below.mono hb HB6.out.size))
    clear hb
    go_wp2
    go_ret
    exact ⟨rfl, HB9.out⟩
end Go.Proofs.YtoipafnlcchmbaaGreatDoor
