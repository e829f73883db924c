/- SoundNumbers, walked. -/
import Derived.Test.YtoipafnlcchmbaaGreatDoorQPx
import Derived.Test.YtoipafnlcchmbaaGreatDoorQB
import Derived.Test.YtoipafnlcchmbaaGreatDoorQA
import Derived.Test.YtoipafnlcchmbaaGreatDoorQH
import Derived.Lib.QuietBelow
namespace Go.Proofs.YtoipafnlcchmbaaGreatDoor
open Go.RowKit Go.Sort

set_option maxHeartbeats 4000000 in
set_option maxRecDepth 100000 in
theorem numbers_good (s : ByteArray) (number : Int) (k : Nat) (h1 : 0 ≤ number) (h2 : number ≤ 999999999) (h3 : k ≤ 256) (p q : Int) (w : World) (hsz : s.size ≤ 40) (hs : Steps w) (ht : Tab w) :
    Calls Tryz.prog 3 #[.string s, .agg #[.int .i64 number, .int .i64 (k : Int)], .agg #[.int .i64 p, .int .i64 q]] w fun x w' => x = .returned (.bool true) ∧ Below w.heap.size w w' := by
  have HS := Lib.hid hs
  have HT := Lib.hid ht
  have hd : decide ((40 : Int) < (s.size : Int)) = false := decide_eq_false (by omega)
  have HSZ := Lib.hid hsz
  clear hs ht hsz
  have HE : Hid (drawE number (k : Int) = 0) := by show _ = _; unfold drawE; rw [withinE_of h1 h2, withinE_of (by omega) (by omega)]; rfl
  go_enter Tryz.func3, Tryz.ntmps3
  go_wp2_with fail
  obtain ⟨w0, hw0⟩ : ∃ X, X = (w.alloc (.cells #[.int .i64 number, .int .i64 (k : Int)] 22)).alloc (.cells #[.int .i64 p, .int .i64 q] 24) := ⟨_, rfl⟩
  rw [← hw0]
  have HK : Hid (Blk w0 w.heap.size 22 #[.int .i64 number, .int .i64 (k : Int)]) := by show Blk _ _ _ _; rw [hw0]; exact (Blk.new _ _ _).alloc _
  have HR : Hid (Blk w0 (w.heap.size + 1) 24 #[.int .i64 p, .int .i64 q]) := by show Blk _ _ _ _; rw [hw0]; exact Blk.at_size _ _ (by simp)
  have HB0 : Hid (Below w.heap.size w w0) := by show Below _ _ _; rw [hw0]; exact ((Below.refl _ _).alloc (Nat.le_refl _) _).alloc (by simp) _
  obtain ⟨gk, hgk⟩ : ∃ g, g = w.heap.size := ⟨_, rfl⟩
  rw [← hgk] at HK HR ⊢
  clear hw0 hgk
  refine Calls.mono (draw_good number k w0 h1 h2 h3) ?_
  rintro x w1 ⟨v, rfl, hO, hb⟩
  have HK1 := Lib.hid (HK.out.below hb)
  have HR1 := Lib.hid (HR.out.below hb)
  have HB1 := Lib.hid (HB0.out.trans (Below.mono hb HB0.out.size))
  clear hb HK HR HB0
  have HO := Lib.hid hO
  clear hO
  have a0 := HK1.out.cell 0
  have a1 := HK1.out.cell 1
  simp only [List.getElem?_toArray, List.getElem?_cons_zero, List.getElem?_cons_succ] at a0 a1
  go_wp2_with fail
  refine Calls.mono (refCheckDraw_any _ _ _) ?_
  rintro x w2 ⟨rfl, hb⟩
  rw [HE.out]
  have HK2 := Lib.hid (HK1.out.below hb)
  have HR2 := Lib.hid (HR1.out.below hb)
  have HB2 := Lib.hid (HB1.out.trans (Below.mono hb HB1.out.size))
  have HO2 := Lib.hid (HO.out.below hb)
  clear HO
  clear hb HK1 HR1 HB1 a0 a1
  have a0 := HK2.out.cell 0
  have a1 := HK2.out.cell 1
  simp only [List.getElem?_toArray, List.getElem?_cons_zero, List.getElem?_cons_succ] at a0 a1
  go_wp2_with fail
  refine Calls.mono (refDraw_any number k _ h1 h2 h3) ?_
  rintro x w3 ⟨u, rfl, hU, hb⟩
  have HR3 := Lib.hid (HR2.out.below hb)
  have HB3 := Lib.hid (HB2.out.trans (Below.mono hb HB2.out.size))
  have HO3 := Lib.hid (HO2.out.below hb)
  have fl : ∀ {W : World} {B : Nat} {v : Value}, OwnI W B v (drawL number k) → ∃ A c, v = .slice A (drawL number k).length c ∧ IntsAt W A (drawL number k).length (drawL number k) := fun h => by
    rcases h.form with ⟨rfl, h0⟩ | ⟨g, cap, rfl, _⟩
    · exact ⟨none, 0, by rw [h0]; rfl, by rw [h0]; exact ⟨rfl, fun h => by simp at h⟩⟩
    · exact ⟨_, _, rfl, h.at_⟩
  obtain ⟨A, ca, rfl, hA⟩ := fl HO3.out
  obtain ⟨A', ca', rfl, hA'⟩ := fl hU
  have hlen : (drawL number k).length ≤ 140737488351232 := by unfold drawL; rw [drawGo_length, fillL_length]; omega
  have cS : ∀ d os, Calls Tryz.prog 23 #[.slice A (drawL number k).length ca, .slice A' (drawL number k).length ca'] (grow (redrawn w3 d) os) fun e w'' => e = .returned (.bool true) ∧ ∃ p : Regrown, w'' = grow (redrawn w3 p.d) p.os := fun d os =>
    Calls.regrown_of ((sameInts_any A A' _ _ _ _ _ _ _ hlen hlen (hA.keep (below_regrown w3 d os)) (hA'.keep (below_regrown w3 d os))).mono fun e w' ⟨h, q, hq⟩ => ⟨by rw [h, sameB_true rfl], by rw [hq]; exact below_drewN' (Below.refl _ _) q⟩)
  obtain ⟨L, hL⟩ : ∃ L, L = (drawL number k).length := ⟨_, rfl⟩
  rw [← hL] at cS ⊢
  clear hb HK2 HR2 HB2 HO2 HO3 hU hA hA' fl a0 a1 hL hlen h1 h2 h3
  obtain ⟨nb, hnb⟩ : ∃ nb, nb = nameB s := ⟨_, rfl⟩
  obtain ⟨rt, hrt⟩ : ∃ rt, rt = checkRatioE p q := ⟨_, rfl⟩
  have cI : ∀ d os, Calls Tryz.prog 21 #[.string s] (grow (redrawn w3 d) os) fun e w'' => e = .returned (.bool nb) ∧ ∃ p : Regrown, w'' = grow (redrawn w3 p.d) p.os := fun d os => by
    rw [hnb]; exact Calls.regrown_of (isName_any s _ (by have := HSZ.out; omega))
  have cJ : ∀ d os, Calls Tryz.prog 22 #[.string s] (grow (redrawn w3 d) os) fun e w'' => e = .returned (.bool nb) ∧ ∃ p : Regrown, w'' = grow (redrawn w3 p.d) p.os := fun d os => by
    rw [hnb]; exact Calls.regrown_of ((refIsName_any s _ (by have := HSZ.out; omega)).mono fun e w' ⟨h, hq⟩ => ⟨h, by rw [← hq]; exact Below.refl _ _⟩)
  have cC : ∀ d os, Calls Tryz.prog 24 #[.agg #[.int .i64 p, .int .i64 q]] (grow (redrawn w3 d) os) fun e w'' => e = .returned (.int .i64 rt) ∧ ∃ p : Regrown, w'' = grow (redrawn w3 p.d) p.os := fun d os => by
    rw [hrt]; exact Calls.regrown_of (checkRatio_any p q _)
  have cD : ∀ d os, Calls Tryz.prog 25 #[.agg #[.int .i64 p, .int .i64 q]] (grow (redrawn w3 d) os) fun e w'' => e = .returned (.int .i64 rt) ∧ ∃ p : Regrown, w'' = grow (redrawn w3 p.d) p.os := fun d os => by
    rw [hrt]; exact Calls.regrown_of (refCheckRatio_any p q _)
  have bw : ∀ d os, Below w.heap.size w (grow (redrawn w3 d) os) := fun d os => HB3.out.trans ((below_regrown w3 d os).mono HB3.out.size)
  have cA : ∀ d os, Calls Tryz.prog 17 #[] (grow (redrawn w3 d) os) fun e w'' => e = .returned (.bool true) ∧ ∃ p : Regrown, w'' = grow (redrawn w3 p.d) p.os := fun d os =>
    Calls.regrown_of (awake_any _ (HS.out.keep (bw d os)) (HT.out.keep (bw d os)))
  have x0 : ∀ d os, (grow (redrawn w3 d) os).cell? ⟨gk + 1, 0, none⟩ = some (.int .i64 p) := fun d os => cell_regrown ((HR3.out.cell 0).trans rfl) d os
  have x1 : ∀ d os, (grow (redrawn w3 d) os).cell? ⟨gk + 1, 1, none⟩ = some (.int .i64 q) := fun d os => cell_regrown ((HR3.out.cell 1).trans rfl) d os
  clear hnb hrt HS HT HR3 HB3 HSZ
  go_upto_region 8 with fail
  refine wp_region_quiet_below (by kernel_rfl) (by kernel_rfl) ?_
  cases nb
  all_goals
    repeat (quiet_step (first | exact cI _ _ | exact cJ _ _ | exact cS _ _ | exact cC _ _ | exact cD _ _ | exact cA _ _))
    refine wpQuiet_nil ?_
    intro _ hw'
    obtain ⟨⟨dq, osq⟩, hw''⟩ := hw'
    subst hw''
    go_wp2
    go_ret
    exact ⟨rfl, bw dq osq⟩

set_option maxHeartbeats 4000000 in
set_option maxRecDepth 100000 in
theorem numbers_bad (s : ByteArray) (number : Int) (m : Int) (hbad : drawE number m ≠ 0) (p q : Int) (w : World) (hsz : s.size ≤ 40) (hs : Steps w) (ht : Tab w) :
    Calls Tryz.prog 3 #[.string s, .agg #[.int .i64 number, .int .i64 m], .agg #[.int .i64 p, .int .i64 q]] w fun x w' => x = .returned (.bool true) ∧ Below w.heap.size w w' := by
  have HS := Lib.hid hs
  have HT := Lib.hid ht
  have hd : decide ((40 : Int) < (s.size : Int)) = false := decide_eq_false (by omega)
  have HSZ := Lib.hid hsz
  clear hs ht hsz
  obtain ⟨E, hE⟩ : ∃ E, E = drawE number m := ⟨_, rfl⟩
  have HE := Lib.hid hE
  have HBAD := Lib.hid hbad
  have he1 : (E == 0) = false := by rw [hE]; simp [hbad]
  clear hE hbad
  go_enter Tryz.func3, Tryz.ntmps3
  go_wp2_with fail
  obtain ⟨w0, hw0⟩ : ∃ X, X = (w.alloc (.cells #[.int .i64 number, .int .i64 m] 22)).alloc (.cells #[.int .i64 p, .int .i64 q] 24) := ⟨_, rfl⟩
  rw [← hw0]
  have HK : Hid (Blk w0 w.heap.size 22 #[.int .i64 number, .int .i64 m]) := by show Blk _ _ _ _; rw [hw0]; exact (Blk.new _ _ _).alloc _
  have HR : Hid (Blk w0 (w.heap.size + 1) 24 #[.int .i64 p, .int .i64 q]) := by show Blk _ _ _ _; rw [hw0]; exact Blk.at_size _ _ (by simp)
  have HB0 : Hid (Below w.heap.size w w0) := by show Below _ _ _; rw [hw0]; exact ((Below.refl _ _).alloc (Nat.le_refl _) _).alloc (by simp) _
  obtain ⟨gk, hgk⟩ : ∃ g, g = w.heap.size := ⟨_, rfl⟩
  rw [← hgk] at HK HR ⊢
  clear hw0 hgk
  refine Calls.mono (draw_bad number m w0 HBAD.out) ?_
  rintro x w1 ⟨rfl, hb⟩
  rw [← HE.out]
  have HK1 := Lib.hid (HK.out.below hb)
  have HR1 := Lib.hid (HR.out.below hb)
  have HB1 := Lib.hid (HB0.out.trans (Below.mono hb HB0.out.size))
  clear hb HK HR HB0
  have a0 := HK1.out.cell 0
  have a1 := HK1.out.cell 1
  simp only [List.getElem?_toArray, List.getElem?_cons_zero, List.getElem?_cons_succ] at a0 a1
  go_wp2_with fail
  refine Calls.mono (refCheckDraw_any _ _ _) ?_
  rintro x w2 ⟨rfl, hb⟩
  rw [← HE.out]
  have HK2 := Lib.hid (HK1.out.below hb)
  have HR2 := Lib.hid (HR1.out.below hb)
  have HB2 := Lib.hid (HB1.out.trans (Below.mono hb HB1.out.size))
  skip
  clear hb HK1 HR1 HB1 a0 a1
  obtain ⟨w3, hw3⟩ : ∃ X, X = w2 := ⟨_, rfl⟩
  rw [← hw3]
  have HR3 : Hid (Blk w3 (gk + 1) 24 #[.int .i64 p, .int .i64 q]) := by rw [hw3]; exact HR2
  have HB3 : Hid (Below w.heap.size w w3) := by rw [hw3]; exact HB2
  have cS : ∀ d os, Calls Tryz.prog 23 #[.slice none 0 0, .slice none 0 0] (grow (redrawn w3 d) os) fun e w'' => e = .returned (.bool true) ∧ ∃ p : Regrown, w'' = grow (redrawn w3 p.d) p.os := fun d os =>
    Calls.regrown_of ((sameInts_any none none 0 0 0 0 [] [] _ (by omega) (by omega) ⟨rfl, fun h => by omega⟩ ⟨rfl, fun h => by omega⟩).mono fun e w' ⟨h, q, hq⟩ => ⟨by rw [h, sameB_true rfl], by rw [hq]; exact below_drewN' (Below.refl _ _) q⟩)
  clear HK2 HR2 HB2 hw3
  obtain ⟨nb, hnb⟩ : ∃ nb, nb = nameB s := ⟨_, rfl⟩
  obtain ⟨rt, hrt⟩ : ∃ rt, rt = checkRatioE p q := ⟨_, rfl⟩
  have cI : ∀ d os, Calls Tryz.prog 21 #[.string s] (grow (redrawn w3 d) os) fun e w'' => e = .returned (.bool nb) ∧ ∃ p : Regrown, w'' = grow (redrawn w3 p.d) p.os := fun d os => by
    rw [hnb]; exact Calls.regrown_of (isName_any s _ (by have := HSZ.out; omega))
  have cJ : ∀ d os, Calls Tryz.prog 22 #[.string s] (grow (redrawn w3 d) os) fun e w'' => e = .returned (.bool nb) ∧ ∃ p : Regrown, w'' = grow (redrawn w3 p.d) p.os := fun d os => by
    rw [hnb]; exact Calls.regrown_of ((refIsName_any s _ (by have := HSZ.out; omega)).mono fun e w' ⟨h, hq⟩ => ⟨h, by rw [← hq]; exact Below.refl _ _⟩)
  have cC : ∀ d os, Calls Tryz.prog 24 #[.agg #[.int .i64 p, .int .i64 q]] (grow (redrawn w3 d) os) fun e w'' => e = .returned (.int .i64 rt) ∧ ∃ p : Regrown, w'' = grow (redrawn w3 p.d) p.os := fun d os => by
    rw [hrt]; exact Calls.regrown_of (checkRatio_any p q _)
  have cD : ∀ d os, Calls Tryz.prog 25 #[.agg #[.int .i64 p, .int .i64 q]] (grow (redrawn w3 d) os) fun e w'' => e = .returned (.int .i64 rt) ∧ ∃ p : Regrown, w'' = grow (redrawn w3 p.d) p.os := fun d os => by
    rw [hrt]; exact Calls.regrown_of (refCheckRatio_any p q _)
  have bw : ∀ d os, Below w.heap.size w (grow (redrawn w3 d) os) := fun d os => HB3.out.trans ((below_regrown w3 d os).mono HB3.out.size)
  have cA : ∀ d os, Calls Tryz.prog 17 #[] (grow (redrawn w3 d) os) fun e w'' => e = .returned (.bool true) ∧ ∃ p : Regrown, w'' = grow (redrawn w3 p.d) p.os := fun d os =>
    Calls.regrown_of (awake_any _ (HS.out.keep (bw d os)) (HT.out.keep (bw d os)))
  have x0 : ∀ d os, (grow (redrawn w3 d) os).cell? ⟨gk + 1, 0, none⟩ = some (.int .i64 p) := fun d os => cell_regrown ((HR3.out.cell 0).trans rfl) d os
  have x1 : ∀ d os, (grow (redrawn w3 d) os).cell? ⟨gk + 1, 1, none⟩ = some (.int .i64 q) := fun d os => cell_regrown ((HR3.out.cell 1).trans rfl) d os
  clear hnb hrt HS HT HR3 HB3 HSZ
  go_upto_region 8 with fail
  refine wp_region_quiet_below (by kernel_rfl) (by kernel_rfl) ?_
  cases nb
  all_goals
    repeat (quiet_step (first | exact cI _ _ | exact cJ _ _ | exact cS _ _ | exact cC _ _ | exact cD _ _ | exact cA _ _))
    refine wpQuiet_nil ?_
    intro _ hw'
    obtain ⟨⟨dq, osq⟩, hw''⟩ := hw'
    subst hw''
    go_wp2
    go_ret
    exact ⟨rfl, bw dq osq⟩

set_option maxHeartbeats 4000000 in
set_option maxRecDepth 100000 in
theorem numbers_long (s : ByteArray) (a b p q : Int) (w : World) (hsz : ¬ s.size ≤ 40) (hs : Steps w) (ht : Tab w) :
    Calls Tryz.prog 3 #[.string s, .agg #[.int .i64 a, .int .i64 b], .agg #[.int .i64 p, .int .i64 q]] w fun x w' => x = .returned (.bool true) ∧ Below w.heap.size w w' := by
  have hd : decide ((40 : Int) < (s.size : Int)) = true := decide_eq_true (by omega)
  have HS := Lib.hid hs
  have HT := Lib.hid ht
  clear hs ht hsz
  have HB0 : Hid (Below w.heap.size w ((w.alloc (.cells #[.int .i64 a, .int .i64 b] 22)).alloc (.cells #[.int .i64 p, .int .i64 q] 24))) := ((Below.refl _ _).alloc (Nat.le_refl _) _).alloc (by simp) _
  go_enter Tryz.func3, Tryz.ntmps3
  go_wp2_with fail
  refine Calls.mono (awake_any _ (HS.out.keep HB0.out) (HT.out.keep HB0.out)) ?_
  rintro x w9 ⟨rfl, hb⟩
  have HB9 := Lib.hid (HB0.out.trans (Below.mono hb HB0.out.size))
  clear hb
  go_wp2
  go_ret
  exact ⟨rfl, HB9.out⟩
theorem numbers_walk (s : ByteArray) (a b p q : Int) (w : World) (hs : Steps w) (ht : Tab w) :
    Calls Tryz.prog 3 #[.string s, .agg #[.int .i64 a, .int .i64 b], .agg #[.int .i64 p, .int .i64 q]] w fun x w' => x = .returned (.bool true) ∧ Below w.heap.size w w' := by
  by_cases hsz : s.size ≤ 40
  · by_cases hE : drawE a b = 0
    · have h := firstE2_zero hE
      have h1 := withinE_zero h.1
      have h2 := withinE_zero h.2
      obtain ⟨k, rfl⟩ : ∃ k : Nat, b = (k : Int) := ⟨b.toNat, by omega⟩
      exact numbers_good s a k h1.1 h1.2 (by omega) p q w hsz hs ht
    · exact numbers_bad s a b hE p q w hsz hs ht
  · exact numbers_long s a b p q w hsz hs ht
end Go.Proofs.YtoipafnlcchmbaaGreatDoor
