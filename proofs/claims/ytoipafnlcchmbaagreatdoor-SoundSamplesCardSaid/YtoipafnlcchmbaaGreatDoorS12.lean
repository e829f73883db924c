/- SoundSamples, walked. -/
import Derived.Test.YtoipafnlcchmbaaGreatDoorQPx
import Derived.Test.YtoipafnlcchmbaaGreatDoorR2
import Derived.Test.YtoipafnlcchmbaaGreatDoorQW
namespace Go.Proofs.YtoipafnlcchmbaaGreatDoor
open Go.RowKit

set_option maxHeartbeats 4000000 in
set_option maxRecDepth 100000 in
theorem samples_walk (b : Nat) (A : Option Addr) (n c : Nat) (fs : List Nat) (w : World) (hz : FlAt w A n fs) (hA : A = none → c = 0) (hnc : n ≤ c) (hn : n ≤ 140737488351232) (hst : Steps w) (ht : Tab w) :
    Calls Tryz.prog 4 #[.float .f32 b, .slice A n c] w fun x w' => x = .returned (.bool true) ∧ Below w.heap.size w w' := by
  have HZ := Lib.hid hz
  have HS := Lib.hid hst
  have HT := Lib.hid ht
  have HA := Lib.hid hA
  clear hz hst ht hA
  by_cases h1 : n ≤ 40 ∨ n = 4097
  · have D1 := Lib.hid (decide_eq_true h1)
    have HN : Hid (n ≤ 100000) := by show _ ≤ _; omega
    obtain ⟨E1, hE1⟩ : ∃ E, E = partE 10 b := ⟨_, rfl⟩
    obtain ⟨E2, hE2⟩ : ∃ E, E = checkSamplesE fs := ⟨_, rfl⟩
    have HE1 := Lib.hid hE1
    have HE2 := Lib.hid hE2
    clear h1 hE1 hE2
    go_enter Tryz.func4, Tryz.ntmps4
    go_wp2_with fail
    refine Calls.mono (shortList_any _ _ _ _ hn) ?_
    rintro x w' ⟨rfl, rfl⟩
    rw [D1.out]
    go_wp2_with fail
    refine Calls.mono (checkSample_any _ _) ?_
    rintro x w1 ⟨rfl, hb⟩
    rw [← HE1.out]
    have HB1 := Lib.hid hb
    clear hb
    go_wp2_with fail
    refine Calls.mono (refCheckSample_any _ _) ?_
    rintro x w2 ⟨rfl, hb⟩
    rw [← HE1.out]
    have HB2 := Lib.hid (HB1.out.trans (Below.mono hb HB1.out.size))
    clear hb HB1
    go_wp2_with fail
    refine Calls.mono (floats_any A n c fs _ (HZ.out.keep HB2.out) HA.out HN.out) ?_
    rintro x w3 ⟨A3, c3, rfl, hI, hb⟩
    have HI := Lib.hid hI
    have HB3 := Lib.hid (HB2.out.trans (Below.mono hb HB2.out.size))
    clear hI hb HB2
    go_wp2_with fail
    refine Calls.mono (checkSamples_any A3 n c3 fs _ hn HI.out) ?_
    rintro x w4 ⟨rfl, hb⟩
    rw [← HE2.out]
    have HB4 := Lib.hid (HB3.out.trans (Below.mono hb HB3.out.size))
    clear hb HB3 HI
    go_wp2_with fail
    refine Calls.mono (refCheckSamples_any A n c fs _ HN.out hnc (HZ.out.keep HB4.out)) ?_
    rintro x w5 ⟨rfl, hb⟩
    rw [← HE2.out]
    have HB5 := Lib.hid (HB4.out.trans (Below.mono hb HB4.out.size))
    clear hb HB4
    go_wp2_with fail
    refine Calls.mono (awake_any _ (HS.out.keep HB5.out) (HT.out.keep HB5.out)) ?_
    rintro x w9 ⟨rfl, hb⟩
    have HB9 := Lib.hid (HB5.out.trans (Below.mono hb HB5.out.size))
    clear hb
    go_wp2
    go_ret
    exact ⟨rfl, HB9.out⟩
  · have D1 := Lib.hid (decide_eq_false h1)
    have HB6 := Lib.hid (Below.refl w.heap.size w)
    clear h1 HZ HA
    go_enter Tryz.func4, Tryz.ntmps4
    go_wp2_with fail
    refine Calls.mono (shortList_any _ _ _ _ hn) ?_
    rintro x w' ⟨rfl, rfl⟩
    rw [D1.out]
    go_wp2_with fail
    refine Calls.mono (awake_any _ (HS.out.keep HB6.out) (HT.out.keep HB6.out)) ?_
    rintro x w9 ⟨rfl, hb⟩
    have HB9 := Lib.hid (HB6.out.trans (Below.mono hb HB6.out.size))
    clear hb
    go_wp2
    go_ret
    exact ⟨rfl, HB9.out⟩
end Go.Proofs.YtoipafnlcchmbaaGreatDoor
