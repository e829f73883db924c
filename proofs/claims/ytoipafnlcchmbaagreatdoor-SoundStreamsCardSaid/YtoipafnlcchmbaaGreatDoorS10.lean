/- SoundReceives, walked (made by wip/tools/gen_s10.py). -/
import Derived.Test.YtoipafnlcchmbaaGreatDoorQPx
import Derived.Test.YtoipafnlcchmbaaGreatDoorQK
import Derived.Test.YtoipafnlcchmbaaGreatDoorQA
import Derived.Test.YtoipafnlcchmbaaGreatDoorR7
import Derived.Test.YtoipafnlcchmbaaGreatDoorR8
import Derived.Test.YtoipafnlcchmbaaGreatDoorR9
import Derived.Test.YtoipafnlcchmbaaGreatDoorR12
import Derived.Deep.RegionHeld3
import Derived.Deep.DeepCutAuto
namespace Go.Proofs.YtoipafnlcchmbaaGreatDoor
open Go.RowKit

theorem results2b {w : World} {g : Nat} {t : TypeId} {a0 a1 : Value} (h : Blk w g t #[a0, a1]) : w.cell? ⟨g, 0, none⟩ = some a0 ∧ w.cell? ⟨g, 1, none⟩ = some a1 := ⟨h.cell 0, h.cell 1⟩
theorem own_form {w : World} {base : Nat} {v : Value} {zs : List Int} (h : OwnI w base v zs) : ∃ A c, v = .slice A zs.length c ∧ IntsAt w A zs.length zs := by
  rcases h.form with ⟨rfl, rfl⟩ | ⟨g, cap, rfl, _⟩
  · exact ⟨none, 0, rfl, ⟨rfl, fun h => by simp at h⟩⟩
  · exact ⟨_, _, rfl, h.at_⟩
theorem intsAt_drewN {w w' : World} {A : Option Addr} {n q : Nat} {zs : List Int} (h : IntsAt w A n zs) (e : w' = w.drewN q) : IntsAt w' A n zs := by
  subst e
  exact h
theorem skipL_len (ys : List Nat) (n : Nat) : (skipL ys n).length ≤ ys.length + 1 := by
  have := skSt_len ys
  unfold skipL
  split
  · rw [List.length_append]; simp; omega
  · omega
theorem lostVal_len (st : Int) (l : List Pk) : (lostVal st l).length ≤ 256 := by
  unfold lostVal
  split
  · assumption
  · simp
theorem lostPre_two (l : List Pk) (st : Int) : firstE [checkPacketsE l, withinE st 0 255] = lostPre l st := by
  unfold checkPacketsE lostPre
  by_cases h : atMostE l.length 1024 = 0
  · rw [firstE_ne (atMostE l.length 1024), if_pos h]
    simp [firstE, h]
  · rw [firstE_ne (atMostE l.length 1024), if_neg h]
    simp [firstE, h]

set_option maxHeartbeats 8000000 in
set_option maxRecDepth 100000 in
theorem receives_a (ks : List Int) (k0 k1 k2 k3 k4 k5 k6 k7 : Int) (HKS : Hid (ks = [k0, k1, k2, k3, k4, k5, k6, k7])) (s : List Int) (A : Option Addr) (n c : Nat) (l : List Pk) (B : Option Addr) (m d : Nat) (st : Int) (w : World) (hkb : AllB ks) (hz : BytesAt w A n s) (hsb : AllB s) (hA : A = none → c = 0) (hnc : n ≤ c) (hp : PksAt w B m l) (hst : Steps w) (ht : Tab w) (hn : n ≤ 300) (hm : m ≤ 12 ∨ m = 1025) :
    Calls Tryz.prog 10 #[.agg #[.int .u8 k0, .int .u8 k1, .int .u8 k2, .int .u8 k3, .int .u8 k4, .int .u8 k5, .int .u8 k6, .int .u8 k7], .slice A n c, .agg #[.slice B m d, .int .i64 st]] w fun x w' => x = .returned (.bool true) ∧ Below w.heap.size w w' := by
  have HKB := Lib.hid hkb
  have HZ := Lib.hid hz
  have HSB := Lib.hid hsb
  have HA := Lib.hid hA
  have HP := Lib.hid hp
  have HST := Lib.hid hst
  have HT := Lib.hid ht
  obtain ⟨ys, sp, E, hr1, hr2, hr3, hrec⟩ := Received_law ks k0 k1 k2 k3 k4 k5 k6 k7 HKS s n hz.1 hkb (by omega)
  obtain ⟨hE, hsp, kk, hu, hk⟩ := hr1 hn
  subst hE
  subst hsp
  have HU := Lib.hid hu
  have HUK := Lib.hid hk
  have HYL : Hid (ys.length ≤ 2000) := by
    have h1 := hu.le
    have h2 := hz.1
    show _ ≤ _
    omega
  clear hu hk
  have HR2 := Lib.hid hr2
  have HR3 := Lib.hid hr3
  have HREC := Lib.hid hrec
  have HNC := Lib.hid hnc
  clear hkb hz hsb hA hp hst ht hr1 hr2 hr3 hrec hnc
  go_enter Tryz.func10, Tryz.ntmps10
  go_upto_region 1 with fail
  obtain ⟨W0, hW0⟩ : ∃ X, X = (w.alloc (.cells #[.int .u8 k0, .int .u8 k1, .int .u8 k2, .int .u8 k3, .int .u8 k4, .int .u8 k5, .int .u8 k6, .int .u8 k7] 94)).alloc (.cells #[.slice B m d, .int .i64 st] 116) := ⟨_, rfl⟩
  rw [← hW0]
  have HK0 : Hid (Blk W0 w.heap.size 94 #[.int .u8 k0, .int .u8 k1, .int .u8 k2, .int .u8 k3, .int .u8 k4, .int .u8 k5, .int .u8 k6, .int .u8 k7]) := by show Blk _ _ _ _; rw [hW0]; exact (Blk.new _ _ _).alloc _
  have HX0 : Hid (Blk W0 (w.heap.size + 1) 116 #[.slice B m d, .int .i64 st]) := by show Blk _ _ _ _; rw [hW0]; exact Blk.at_size _ _ (by simp)
  have HB0 : Hid (Below w.heap.size w W0) := by show Below _ _ _; rw [hW0]; exact ((Below.refl _ _).alloc (Nat.le_refl _) _).alloc (by simp) _
  obtain ⟨gk, hgk⟩ : ∃ g, g = w.heap.size := ⟨_, rfl⟩
  obtain ⟨gx, hgx⟩ : ∃ g, g = w.heap.size + 1 := ⟨_, rfl⟩
  rw [← hgx] at HX0 ⊢
  rw [← hgk] at HK0 ⊢
  clear hW0 hgx
  have HGK := Lib.hid hgk
  clear hgk
  have x0 : W0.cell? ⟨gx, 0, none⟩ = some (.slice B m d) := HX0.out.cell 0
  have hle : (n : Int) ≤ 300 := by omega
  go_wp2_with fail
  refine Calls.mono (shortPackets_any B m d _ (by omega)) ?_
  rintro x w' ⟨rfl, rfl⟩
  rw [show decide (m ≤ 12 ∨ m = 1025) = true from decide_eq_true hm]
  go_upto_region 3 with fail
  clear x0
  have HZ0 : Hid (BytesAt W0.drew A n s) := HZ.out.keep HB0.out.drew
  go_region_held3 (fun W => (W.cell? ⟨gk, 0, none⟩ = some (.int .u8 k0) ∧ W.cell? ⟨gk, 1, none⟩ = some (.int .u8 k1) ∧ W.cell? ⟨gk, 2, none⟩ = some (.int .u8 k2) ∧ W.cell? ⟨gk, 3, none⟩ = some (.int .u8 k3) ∧ W.cell? ⟨gk, 4, none⟩ = some (.int .u8 k4) ∧ W.cell? ⟨gk, 5, none⟩ = some (.int .u8 k5) ∧ W.cell? ⟨gk, 6, none⟩ = some (.int .u8 k6) ∧ W.cell? ⟨gk, 7, none⟩ = some (.int .u8 k7))) (first | with_reducible exact results8 HK0.out.drew | with_reducible exact results8 (HK0.out.drew.below G1.out) | with_reducible exact results8 ((HK0.out.drew.below G1.out).below G2.out))
    (first
      | (go_at_call 70; refine (bytes_cap _ _ _ s _ HZ0.out HA.out (by omega)).mono ?_; rintro e w1 ⟨A1, c1, rfl, hI, hcp, hb1⟩; have HI1 := Lib.hid hI; have HC1 := Lib.hid hcp; have G1 := Lib.hid hb1; clear hI hcp hb1)
      | (go_at_call 76; refine (HREC.out A1 c1 _ HC1.out HI1.out).mono ?_; rintro e w2 ⟨vl, vs, rfl, ho1, ho2, hb2⟩; have O1 := Lib.hid ho1; have O2 := Lib.hid ho2; have G2 := Lib.hid hb2; clear ho1 ho2 hb2))
  go_upto_region 4 with fail
  have HB2 : Hid (Below w.heap.size w w2) := HB0.out.drew.trans ((G1.out.trans (G2.out.mono G1.out.size)).mono HB0.out.size)
  have HX2 : Hid (Blk w2 gx 116 #[.slice B m d, .int .i64 st]) := (HX0.out.drew.below G1.out).below G2.out
  have HK2 : Hid (Blk w2 gk 94 #[.int .u8 k0, .int .u8 k1, .int .u8 k2, .int .u8 k3, .int .u8 k4, .int .u8 k5, .int .u8 k6, .int .u8 k7]) := (HK0.out.drew.below G1.out).below G2.out
  clear HX0 HK0 HB0 HZ0 HI1 HC1 G1 G2
  have HP2 : Hid (PksAt w2.drew B m l) := HP.out.keep HB2.out.drew
  go_region_held3 (fun W => (W.cell? ⟨gx, 0, none⟩ = some (.slice B m d) ∧ W.cell? ⟨gx, 1, none⟩ = some (.int .i64 st))) (first | with_reducible exact results2b HX2.out.drew | with_reducible exact results2b (HX2.out.drew.below G3.out) | with_reducible exact results2b ((HX2.out.drew.below G3.out).below G4.out))
    (first
      | (go_at_call 78; refine (packets_any B m d l _ HP2.out (by omega)).mono ?_; rintro e w3 ⟨A3, c3, rfl, hI, hb1⟩; have HI3 := Lib.hid hI; have G3 := Lib.hid hb1; clear hI hb1)
      | (go_at_call 77; refine (Lost_any A3 m c3 l st _ (by omega) HI3.out).mono ?_; rintro e w4 ⟨v4, rfl, ho, hb2⟩; have O4 := Lib.hid ho; have G4 := Lib.hid hb2; clear ho hb2))
  have HG24 : Hid (Below w2.heap.size w2 w4) := (Below.refl _ w2).drew.trans (G3.out.trans (G4.out.mono G3.out.size))
  have HB4 : Hid (Below w.heap.size w w4) := HB2.out.trans (HG24.out.mono HB2.out.size)
  have HX4 : Hid (Blk w4 gx 116 #[.slice B m d, .int .i64 st]) := HX2.out.below HG24.out
  have HK4 : Hid (Blk w4 gk 94 #[.int .u8 k0, .int .u8 k1, .int .u8 k2, .int .u8 k3, .int .u8 k4, .int .u8 k5, .int .u8 k6, .int .u8 k7]) := HK2.out.below HG24.out
  have P4 := Lib.hid (own_below O1.out HG24.out)
  have Q4 := Lib.hid (own_below O2.out HG24.out)
  clear HX2 HK2 HB2 HP2 HI3 G3 G4 HG24 O1 O2
  go_upto_region 5 with fail
  go_wp2_with fail
  refine Calls.mono (refWhen_any _ 26 _) ?_
  rintro x w' ⟨rfl, rfl⟩
  rw [show (if decide ((32768 : Int) < (n : Int)) = true then (26 : Int) else 0) = 0 by rw [if_neg (by simp; omega)]]
  go_upto_region 6 with fail
  have HP4 : Hid (PksAt w4.drew B m l) := HP.out.keep HB4.out.drew
  go_cut [13] (fun v wx => v = .int .i64 (lostPre l st) ∧ Below w4.heap.size w4 wx)
  case first =>
    go_region_held3 (fun W => (W.cell? ⟨gx, 0, none⟩ = some (.slice B m d) ∧ W.cell? ⟨gx, 1, none⟩ = some (.int .i64 st))) (first | with_reducible exact results2b HX4.out.drew | with_reducible exact results2b (HX4.out.drew.below G5.out) | with_reducible exact results2b ((HX4.out.drew.below G5.out).alloc _))
      (first
        | (go_at_call 80; refine (refCheckPackets_any B m d l _ (by omega) HP4.out).mono ?_; rintro e w5 ⟨rfl, hb1⟩; have G5 := Lib.hid hb1; clear hb1)
        | (go_at_call 37; refine (refCheckRange_any st 0 255 _).mono ?_; rintro e w6 ⟨rfl, rfl⟩)
        | (go_at_call 47; refine (refFirst2 _ _ (checkPacketsE l) (withinE st 0 255) _ (by go_simp) (by go_simp)).mono ?_; rintro e w7 ⟨rfl, rfl⟩))
    all_goals (
      go_wp2_with fail
      go_meet
      exact ⟨by rw [lostPre_two], (Below.refl _ w4).drew.trans (G5.out.alloc G5.out.size _)⟩)
  case rest =>
  obtain ⟨rfl, hb5⟩ := hcut
  have HB5 : Hid (Below w.heap.size w wc) := HB4.out.trans (hb5.mono HB4.out.size)
  have HX5 : Hid (Blk wc gx 116 #[.slice B m d, .int .i64 st]) := HX4.out.below hb5
  have HK5 : Hid (Blk wc gk 94 #[.int .u8 k0, .int .u8 k1, .int .u8 k2, .int .u8 k3, .int .u8 k4, .int .u8 k5, .int .u8 k6, .int .u8 k7]) := HK4.out.below hb5
  have P5 := Lib.hid (own_below P4.out hb5)
  have Q5 := Lib.hid (own_below Q4.out hb5)
  have O5 := Lib.hid (O4.out.below hb5)
  have ika : Hid ((Tryz.prog.info? 94).map (·.size) = some (#[.int .u8 k0, .int .u8 k1, .int .u8 k2, .int .u8 k3, .int .u8 k4, .int .u8 k5, .int .u8 k6, .int .u8 k7] : Array Value).size) := by show _ = _; kernel_rfl
  obtain ⟨PP, hPP⟩ : ∃ P, P = lostPre l st := ⟨_, rfl⟩
  rw [← hPP]
  have HPP := Lib.hid hPP
  clear HX4 HK4 HB4 HP4 P4 Q4 O4 hb5 hPP
  as_aux_lemma =>
  go_upto_region 11 with fail
  go_wp2_with (refine wpList_load_row rfl 94 _ rfl gk rfl 94 #[.int .u8 k0, .int .u8 k1, .int .u8 k2, .int .u8 k3, .int .u8 k4, .int .u8 k5, .int .u8 k6, .int .u8 k7] (0, 0) _ HK5.out Tryz.underlying94 rfl ika.out ?_)
  refine Calls.mono (refReceived_any ks k0 k1 k2 k3 k4 k5 k6 k7 HKS s A n c _ HKB.out HSB.out (by omega) HNC.out (HZ.out.keep HB5.out)) ?_
  rintro x w6 ⟨ys', k', vl2, vs2, hu', hk', rfl, ho1, ho2, hb⟩
  have hy : ys = ys' := (hu'.only HU.out (by rw [HZ.out.1]; exact hk') (by rw [HZ.out.1]; exact HUK.out)).symm
  subst hy
  have HB6 : Hid (Below w.heap.size w w6) := HB5.out.trans (hb.mono HB5.out.size)
  have HX6 : Hid (Blk w6 gx 116 #[.slice B m d, .int .i64 st]) := HX5.out.below hb
  have P6 := Lib.hid (own_below P5.out hb)
  have Q6 := Lib.hid (own_below Q5.out hb)
  have O6 := Lib.hid (O5.out.below hb)
  have R6 := Lib.hid ho1
  have S6 := Lib.hid ho2
  clear hb ho1 ho2 hu' hk' HK5 HX5 HB5 P5 Q5 O5 ika HU HUK
  by_cases hP0 : PP = 0
  · have h1 : (PP == 0) = true := by simp [hP0]
    have h9 := firstE_zero (show lostPre l st = 0 by rw [← HPP.out]; exact hP0)
    have HF0 : Hid (firstInP l = 0) := h9 (firstInP l) (by simp)
    have hm2 : m ≤ 1024 := by
      have h8 := h9 _ (List.mem_cons_self)
      unfold atMostE at h8
      rw [HP.out.1] at h8
      split at h8 <;> omega
    have e1 : Hid (lostE l st = lostErr st l) := by show _ = _; unfold lostE lostErr; rw [if_pos (by rw [← HPP.out]; exact hP0)]
    have e2 : Hid (lostL l st = lostVal st l) := by show _ = _; unfold lostL lostVal; rw [if_pos (by rw [← HPP.out]; exact hP0)]
    have x0 : w6.cell? ⟨gx, 0, none⟩ = some (.slice B m d) := HX6.out.cell 0
    have x1 : w6.cell? ⟨gx, 1, none⟩ = some (.int .i64 st) := HX6.out.cell 1
    clear h9 hP0
    go_wp2_with fail
    refine Calls.mono (refLost_any B m d l st _ hm2 (HP.out.keep HB6.out) HF0.out) ?_
    rintro x w7 ⟨v7, rfl, ho, hb⟩
    have HB7 : Hid (Below w.heap.size w w7) := HB6.out.trans (hb.mono HB6.out.size)
    have P7 := Lib.hid (own_below P6.out hb)
    have Q7 := Lib.hid (own_below Q6.out hb)
    have R7 := Lib.hid (own_below R6.out hb)
    have S7 := Lib.hid (own_below S6.out hb)
    have O7 := Lib.hid (O6.out.below hb)
    have T7 := Lib.hid ho
    rw [e1.out]
    rw [e2.out] at O7
    have hWL := lostVal_len st l
    obtain ⟨W7, hW7⟩ : ∃ W, W = lostVal st l := ⟨_, rfl⟩
    obtain ⟨E7, hE7⟩ : ∃ W, W = lostErr st l := ⟨_, rfl⟩
    rw [← hW7] at O7 T7 hWL
    rw [← hE7]
    clear hb ho x0 x1 HX6 HB6 P6 Q6 R6 S6 O6 e1 e2 h1 hW7 hE7
    have hyl := HYL.out
    have hsl := skipL_len ys n
    obtain ⟨a1, d1, hv1, hI⟩ := pks_of P7.out HR3.out
    subst hv1
    obtain ⟨a2, d2, hv2, hI2⟩ := pks_of R7.out HR3.out
    subst hv2
    obtain ⟨a3, d3, hv3, hH⟩ := spans_of Q7.out
    subst hv3
    obtain ⟨a4, d4, hv4, hH2⟩ := spans_of S7.out
    subst hv4
    obtain ⟨a5, d5, hv5, hJ⟩ := own_form O7.out
    subst hv5
    obtain ⟨a6, d6, hv6, hJ2⟩ := own_form T7.out
    subst hv6
    have U1 := Lib.hid hI; have U2 := Lib.hid hI2; have U3 := Lib.hid hH; have U4 := Lib.hid hH2; have U5 := Lib.hid hJ; have U6 := Lib.hid hJ2
    clear hI hI2 hH hH2 hJ hJ2 P7 Q7 R7 S7 O7 T7
    as_aux_lemma =>
    go_wp2_with fail
    refine Calls.mono (back_any _ _ _ (recvL s ys) _ U1.out (by omega)) ?_
    rintro x w8 ⟨a8, d8, rfl, hK, hb⟩
    have V1 := Lib.hid hK
    have V2 := Lib.hid (U2.out.keep hb); have V3 := Lib.hid (U3.out.keep hb); have V4 := Lib.hid (U4.out.keep hb); have V5 := Lib.hid (U5.out.keep hb); have V6 := Lib.hid (U6.out.keep hb)
    have HB8 : Hid (Below w.heap.size w w8) := HB7.out.trans (hb.mono HB7.out.size)
    clear hK hb U1 U2 U3 U4 U5 U6 HB7
    go_wp2_with fail
    refine Calls.mono (samePackets_same _ _ _ _ _ (recvL s ys) _ (by omega) V1.out V2.out) ?_
    rintro x w9 ⟨rfl, hb⟩
    have X3 := Lib.hid (V3.out.keep hb); have X4 := Lib.hid (V4.out.keep hb); have X5 := Lib.hid (V5.out.keep hb); have X6 := Lib.hid (V6.out.keep hb)
    have HB9 : Hid (Below w.heap.size w w9) := HB8.out.trans (hb.mono HB8.out.size)
    clear hb V1 V2 V3 V4 V5 V6 HB8
    go_wp2_with fail
    refine Calls.mono (sameSpans_any _ _ _ _ _ _ (skipL ys n) (skipL ys n) _ (by omega) (by omega) X3.out X4.out) ?_
    rintro x w10 ⟨rfl, q1, hq1⟩
    rw [decide_eq_true (rfl : skipL ys n = skipL ys n)]
    have HB10 : Hid (Below w.heap.size w w10) := by show Below _ _ _; rw [hq1]; exact below_drewN' HB9.out q1
    have Y5 := Lib.hid (intsAt_drewN X5.out hq1); have Y6 := Lib.hid (intsAt_drewN X6.out hq1)
    clear hq1 HB9 X3 X4 X5 X6
    go_wp2_with fail
    refine Calls.mono (sameInts_any _ _ _ _ _ _ W7 W7 _ (by omega) (by omega) Y5.out Y6.out) ?_
    rintro x w11 ⟨rfl, q2, hq2⟩
    rw [show sameB W7 W7 = true by simp [sameB]]
    have HB11 : Hid (Below w.heap.size w w11) := by show Below _ _ _; rw [hq2]; exact below_drewN' HB10.out q2
    clear hq2 HB10 Y5 Y6
    go_wp2_with fail
    refine Calls.mono (awake_any _ (HST.out.keep HB11.out) (HT.out.keep HB11.out)) ?_
    rintro x w12 ⟨rfl, hb⟩
    have HB12 := Lib.hid (HB11.out.trans (Below.mono hb HB11.out.size))
    clear hb
    go_wp2
    go_ret
    exact ⟨rfl, HB12.out⟩
  · have h1 : (PP == 0) = false := by simp [hP0]
    have e1 : Hid (lostE l st = PP) := by show _ = _; unfold lostE; rw [if_neg (by rw [← HPP.out]; exact hP0)]; exact HPP.out.symm
    have e2 : Hid (lostL l st = []) := by show _ = _; unfold lostL; rw [if_neg (by rw [← HPP.out]; exact hP0)]
    have HB7 := Lib.hid HB6.out
    have P7 := Lib.hid P6.out
    have Q7 := Lib.hid Q6.out
    have R7 := Lib.hid R6.out
    have S7 := Lib.hid S6.out
    have O7 := Lib.hid O6.out
    rw [e1.out]
    rw [e2.out] at O7
    have T7 : Hid (OwnI w6 w.heap.size (.slice none 0 0) []) := OwnI.nil _ _
    clear hP0 HX6 HB6 P6 Q6 R6 S6 O6 e1 e2
    have hyl := HYL.out
    have hsl := skipL_len ys n
    obtain ⟨a1, d1, hv1, hI⟩ := pks_of P7.out HR3.out
    subst hv1
    obtain ⟨a2, d2, hv2, hI2⟩ := pks_of R7.out HR3.out
    subst hv2
    obtain ⟨a3, d3, hv3, hH⟩ := spans_of Q7.out
    subst hv3
    obtain ⟨a4, d4, hv4, hH2⟩ := spans_of S7.out
    subst hv4
    obtain ⟨a5, d5, hv5, hJ⟩ := own_form O7.out
    subst hv5
    have hJ2 : IntsAt w6 none 0 [] := ⟨rfl, fun h => by omega⟩
    have U1 := Lib.hid hI; have U2 := Lib.hid hI2; have U3 := Lib.hid hH; have U4 := Lib.hid hH2; have U5 := Lib.hid hJ; have U6 := Lib.hid hJ2
    clear hI hI2 hH hH2 hJ hJ2 P7 Q7 R7 S7 O7 T7
    as_aux_lemma =>
    go_wp2_with fail
    refine Calls.mono (back_any _ _ _ (recvL s ys) _ U1.out (by omega)) ?_
    rintro x w8 ⟨a8, d8, rfl, hK, hb⟩
    have V1 := Lib.hid hK
    have V2 := Lib.hid (U2.out.keep hb); have V3 := Lib.hid (U3.out.keep hb); have V4 := Lib.hid (U4.out.keep hb); have V5 := Lib.hid (U5.out.keep hb); have V6 := Lib.hid (U6.out.keep hb)
    have HB8 : Hid (Below w.heap.size w w8) := HB7.out.trans (hb.mono HB7.out.size)
    clear hK hb U1 U2 U3 U4 U5 U6 HB7
    go_wp2_with fail
    refine Calls.mono (samePackets_same _ _ _ _ _ (recvL s ys) _ (by omega) V1.out V2.out) ?_
    rintro x w9 ⟨rfl, hb⟩
    have X3 := Lib.hid (V3.out.keep hb); have X4 := Lib.hid (V4.out.keep hb); have X5 := Lib.hid (V5.out.keep hb); have X6 := Lib.hid (V6.out.keep hb)
    have HB9 : Hid (Below w.heap.size w w9) := HB8.out.trans (hb.mono HB8.out.size)
    clear hb V1 V2 V3 V4 V5 V6 HB8
    go_wp2_with fail
    refine Calls.mono (sameSpans_any _ _ _ _ _ _ (skipL ys n) (skipL ys n) _ (by omega) (by omega) X3.out X4.out) ?_
    rintro x w10 ⟨rfl, q1, hq1⟩
    rw [decide_eq_true (rfl : skipL ys n = skipL ys n)]
    have HB10 : Hid (Below w.heap.size w w10) := by show Below _ _ _; rw [hq1]; exact below_drewN' HB9.out q1
    have Y5 := Lib.hid (intsAt_drewN X5.out hq1); have Y6 := Lib.hid (intsAt_drewN X6.out hq1)
    clear hq1 HB9 X3 X4 X5 X6
    go_wp2_with fail
    refine Calls.mono (sameInts_any _ _ _ _ _ _ [] [] _ (by simp) (by simp) Y5.out Y6.out) ?_
    rintro x w11 ⟨rfl, q2, hq2⟩
    rw [show sameB [] [] = true by simp [sameB]]
    have HB11 : Hid (Below w.heap.size w w11) := by show Below _ _ _; rw [hq2]; exact below_drewN' HB10.out q2
    clear hq2 HB10 Y5 Y6
    go_wp2_with fail
    refine Calls.mono (awake_any _ (HST.out.keep HB11.out) (HT.out.keep HB11.out)) ?_
    rintro x w12 ⟨rfl, hb⟩
    have HB12 := Lib.hid (HB11.out.trans (Below.mono hb HB11.out.size))
    clear hb
    go_wp2
    go_ret
    exact ⟨rfl, HB12.out⟩

set_option maxHeartbeats 8000000 in
set_option maxRecDepth 100000 in
theorem receives_b (ks : List Int) (k0 k1 k2 k3 k4 k5 k6 k7 : Int) (HKS : Hid (ks = [k0, k1, k2, k3, k4, k5, k6, k7])) (s : List Int) (A : Option Addr) (n c : Nat) (l : List Pk) (B : Option Addr) (m d : Nat) (st : Int) (w : World) (hkb : AllB ks) (hz : BytesAt w A n s) (hsb : AllB s) (hA : A = none → c = 0) (hnc : n ≤ c) (hp : PksAt w B m l) (hst : Steps w) (ht : Tab w) (hn : n = 32769) (hm : m ≤ 12 ∨ m = 1025) :
    Calls Tryz.prog 10 #[.agg #[.int .u8 k0, .int .u8 k1, .int .u8 k2, .int .u8 k3, .int .u8 k4, .int .u8 k5, .int .u8 k6, .int .u8 k7], .slice A n c, .agg #[.slice B m d, .int .i64 st]] w fun x w' => x = .returned (.bool true) ∧ Below w.heap.size w w' := by
  have HKB := Lib.hid hkb
  have HZ := Lib.hid hz
  have HSB := Lib.hid hsb
  have HA := Lib.hid hA
  have HP := Lib.hid hp
  have HST := Lib.hid hst
  have HT := Lib.hid ht
  obtain ⟨ys, sp, E, hr1, hr2, hr3, hrec⟩ := Received_law ks k0 k1 k2 k3 k4 k5 k6 k7 HKS s n hz.1 hkb (by omega)
  obtain ⟨hE, hys, hsp⟩ := hr2 hn
  subst hE
  subst hys
  subst hsp
  have hn1 : 32769 ≤ n := by omega
  have hn2 : n ≤ 32769 := by omega
  clear hn
  have HR3 := Lib.hid hr3
  have HREC := Lib.hid hrec
  have HNC := Lib.hid hnc
  clear hkb hz hsb hA hp hst ht hr1 hr2 hr3 hrec hnc
  go_enter Tryz.func10, Tryz.ntmps10
  go_upto_region 1 with fail
  obtain ⟨W0, hW0⟩ : ∃ X, X = (w.alloc (.cells #[.int .u8 k0, .int .u8 k1, .int .u8 k2, .int .u8 k3, .int .u8 k4, .int .u8 k5, .int .u8 k6, .int .u8 k7] 94)).alloc (.cells #[.slice B m d, .int .i64 st] 116) := ⟨_, rfl⟩
  rw [← hW0]
  have HK0 : Hid (Blk W0 w.heap.size 94 #[.int .u8 k0, .int .u8 k1, .int .u8 k2, .int .u8 k3, .int .u8 k4, .int .u8 k5, .int .u8 k6, .int .u8 k7]) := by show Blk _ _ _ _; rw [hW0]; exact (Blk.new _ _ _).alloc _
  have HX0 : Hid (Blk W0 (w.heap.size + 1) 116 #[.slice B m d, .int .i64 st]) := by show Blk _ _ _ _; rw [hW0]; exact Blk.at_size _ _ (by simp)
  have HB0 : Hid (Below w.heap.size w W0) := by show Below _ _ _; rw [hW0]; exact ((Below.refl _ _).alloc (Nat.le_refl _) _).alloc (by simp) _
  obtain ⟨gk, hgk⟩ : ∃ g, g = w.heap.size := ⟨_, rfl⟩
  obtain ⟨gx, hgx⟩ : ∃ g, g = w.heap.size + 1 := ⟨_, rfl⟩
  rw [← hgx] at HX0 ⊢
  rw [← hgk] at HK0 ⊢
  clear hW0 hgx
  have HGK := Lib.hid hgk
  clear hgk
  have x0 : W0.cell? ⟨gx, 0, none⟩ = some (.slice B m d) := HX0.out.cell 0
  have hle : (300 : Int) < (n : Int) := by omega
  have hne : ((n : Int) != 32769) = false := by simp; omega
  go_wp2_with fail
  refine Calls.mono (shortPackets_any B m d _ (by omega)) ?_
  rintro x w' ⟨rfl, rfl⟩
  rw [show decide (m ≤ 12 ∨ m = 1025) = true from decide_eq_true hm]
  go_upto_region 3 with fail
  clear x0
  have HZ0 : Hid (BytesAt W0.drew A n s) := HZ.out.keep HB0.out.drew
  go_region_held3 (fun W => (W.cell? ⟨gk, 0, none⟩ = some (.int .u8 k0) ∧ W.cell? ⟨gk, 1, none⟩ = some (.int .u8 k1) ∧ W.cell? ⟨gk, 2, none⟩ = some (.int .u8 k2) ∧ W.cell? ⟨gk, 3, none⟩ = some (.int .u8 k3) ∧ W.cell? ⟨gk, 4, none⟩ = some (.int .u8 k4) ∧ W.cell? ⟨gk, 5, none⟩ = some (.int .u8 k5) ∧ W.cell? ⟨gk, 6, none⟩ = some (.int .u8 k6) ∧ W.cell? ⟨gk, 7, none⟩ = some (.int .u8 k7))) (first | with_reducible exact results8 HK0.out.drew | with_reducible exact results8 (HK0.out.drew.below G1.out) | with_reducible exact results8 ((HK0.out.drew.below G1.out).below G2.out))
    (first
      | (go_at_call 70; refine (bytes_cap _ _ _ s _ HZ0.out HA.out (by omega)).mono ?_; rintro e w1 ⟨A1, c1, rfl, hI, hcp, hb1⟩; have HI1 := Lib.hid hI; have HC1 := Lib.hid hcp; have G1 := Lib.hid hb1; clear hI hcp hb1)
      | (go_at_call 76; refine (HREC.out A1 c1 _ HC1.out HI1.out).mono ?_; rintro e w2 ⟨vl, vs, rfl, ho1, ho2, hb2⟩; have O1 := Lib.hid ho1; have O2 := Lib.hid ho2; have G2 := Lib.hid hb2; clear ho1 ho2 hb2))
  go_upto_region 4 with fail
  have HB2 : Hid (Below w.heap.size w w2) := HB0.out.drew.trans ((G1.out.trans (G2.out.mono G1.out.size)).mono HB0.out.size)
  have HX2 : Hid (Blk w2 gx 116 #[.slice B m d, .int .i64 st]) := (HX0.out.drew.below G1.out).below G2.out
  have HK2 : Hid (Blk w2 gk 94 #[.int .u8 k0, .int .u8 k1, .int .u8 k2, .int .u8 k3, .int .u8 k4, .int .u8 k5, .int .u8 k6, .int .u8 k7]) := (HK0.out.drew.below G1.out).below G2.out
  clear HX0 HK0 HB0 HZ0 HI1 HC1 G1 G2
  have HP2 : Hid (PksAt w2.drew B m l) := HP.out.keep HB2.out.drew
  go_region_held3 (fun W => (W.cell? ⟨gx, 0, none⟩ = some (.slice B m d) ∧ W.cell? ⟨gx, 1, none⟩ = some (.int .i64 st))) (first | with_reducible exact results2b HX2.out.drew | with_reducible exact results2b (HX2.out.drew.below G3.out) | with_reducible exact results2b ((HX2.out.drew.below G3.out).below G4.out))
    (first
      | (go_at_call 78; refine (packets_any B m d l _ HP2.out (by omega)).mono ?_; rintro e w3 ⟨A3, c3, rfl, hI, hb1⟩; have HI3 := Lib.hid hI; have G3 := Lib.hid hb1; clear hI hb1)
      | (go_at_call 77; refine (Lost_any A3 m c3 l st _ (by omega) HI3.out).mono ?_; rintro e w4 ⟨v4, rfl, ho, hb2⟩; have O4 := Lib.hid ho; have G4 := Lib.hid hb2; clear ho hb2))
  have HG24 : Hid (Below w2.heap.size w2 w4) := (Below.refl _ w2).drew.trans (G3.out.trans (G4.out.mono G3.out.size))
  have HB4 : Hid (Below w.heap.size w w4) := HB2.out.trans (HG24.out.mono HB2.out.size)
  have HX4 : Hid (Blk w4 gx 116 #[.slice B m d, .int .i64 st]) := HX2.out.below HG24.out
  have HK4 : Hid (Blk w4 gk 94 #[.int .u8 k0, .int .u8 k1, .int .u8 k2, .int .u8 k3, .int .u8 k4, .int .u8 k5, .int .u8 k6, .int .u8 k7]) := HK2.out.below HG24.out
  have P4 := Lib.hid (own_below O1.out HG24.out)
  have Q4 := Lib.hid (own_below O2.out HG24.out)
  clear HX2 HK2 HB2 HP2 HI3 G3 G4 HG24 O1 O2
  go_upto_region 5 with fail
  go_wp2_with fail
  refine Calls.mono (refWhen_any _ 26 _) ?_
  rintro x w' ⟨rfl, rfl⟩
  rw [show (if decide ((32768 : Int) < (n : Int)) = true then (26 : Int) else 0) = 26 by rw [if_pos (by simp; omega)]]
  go_upto_region 6 with fail
  have HP4 : Hid (PksAt w4.drew B m l) := HP.out.keep HB4.out.drew
  go_cut [13] (fun v wx => v = .int .i64 (lostPre l st) ∧ Below w4.heap.size w4 wx)
  case first =>
    go_region_held3 (fun W => (W.cell? ⟨gx, 0, none⟩ = some (.slice B m d) ∧ W.cell? ⟨gx, 1, none⟩ = some (.int .i64 st))) (first | with_reducible exact results2b HX4.out.drew | with_reducible exact results2b (HX4.out.drew.below G5.out) | with_reducible exact results2b ((HX4.out.drew.below G5.out).alloc _))
      (first
        | (go_at_call 80; refine (refCheckPackets_any B m d l _ (by omega) HP4.out).mono ?_; rintro e w5 ⟨rfl, hb1⟩; have G5 := Lib.hid hb1; clear hb1)
        | (go_at_call 37; refine (refCheckRange_any st 0 255 _).mono ?_; rintro e w6 ⟨rfl, rfl⟩)
        | (go_at_call 47; refine (refFirst2 _ _ (checkPacketsE l) (withinE st 0 255) _ (by go_simp) (by go_simp)).mono ?_; rintro e w7 ⟨rfl, rfl⟩))
    all_goals (
      go_wp2_with fail
      go_meet
      exact ⟨by rw [lostPre_two], (Below.refl _ w4).drew.trans (G5.out.alloc G5.out.size _)⟩)
  case rest =>
  obtain ⟨rfl, hb5⟩ := hcut
  have HB5 : Hid (Below w.heap.size w wc) := HB4.out.trans (hb5.mono HB4.out.size)
  have HX5 : Hid (Blk wc gx 116 #[.slice B m d, .int .i64 st]) := HX4.out.below hb5
  have HK5 : Hid (Blk wc gk 94 #[.int .u8 k0, .int .u8 k1, .int .u8 k2, .int .u8 k3, .int .u8 k4, .int .u8 k5, .int .u8 k6, .int .u8 k7]) := HK4.out.below hb5
  have P5 := Lib.hid (own_below P4.out hb5)
  have Q5 := Lib.hid (own_below Q4.out hb5)
  have O5 := Lib.hid (O4.out.below hb5)
  have ika : Hid ((Tryz.prog.info? 94).map (·.size) = some (#[.int .u8 k0, .int .u8 k1, .int .u8 k2, .int .u8 k3, .int .u8 k4, .int .u8 k5, .int .u8 k6, .int .u8 k7] : Array Value).size) := by show _ = _; kernel_rfl
  obtain ⟨PP, hPP⟩ : ∃ P, P = lostPre l st := ⟨_, rfl⟩
  rw [← hPP]
  have HPP := Lib.hid hPP
  clear HX4 HK4 HB4 HP4 P4 Q4 O4 hb5 hPP
  as_aux_lemma =>
  have HB6 := Lib.hid HB5.out
  have HX6 := Lib.hid HX5.out
  have P6 := Lib.hid P5.out
  have Q6 := Lib.hid Q5.out
  have O6 := Lib.hid O5.out
  have R6 : Hid (wc.ownsRow w.heap.size 97 22 (.slice none 0 0) ([] : List Nat).length (pkCells ks s [])) := World.ownsRow_nil _ _ _ _
  have S6 : Hid (wc.ownsRow w.heap.size 184 2 (.slice none 0 0) ([] : List (Int × Int)).length (spanCells [])) := World.ownsRow_nil _ _ _ _
  clear HK5 HX5 HB5 P5 Q5 O5 ika
  by_cases hP0 : PP = 0
  · have h1 : (PP == 0) = true := by simp [hP0]
    have h9 := firstE_zero (show lostPre l st = 0 by rw [← HPP.out]; exact hP0)
    have HF0 : Hid (firstInP l = 0) := h9 (firstInP l) (by simp)
    have hm2 : m ≤ 1024 := by
      have h8 := h9 _ (List.mem_cons_self)
      unfold atMostE at h8
      rw [HP.out.1] at h8
      split at h8 <;> omega
    have e1 : Hid (lostE l st = lostErr st l) := by show _ = _; unfold lostE lostErr; rw [if_pos (by rw [← HPP.out]; exact hP0)]
    have e2 : Hid (lostL l st = lostVal st l) := by show _ = _; unfold lostL lostVal; rw [if_pos (by rw [← HPP.out]; exact hP0)]
    have x0 : wc.cell? ⟨gx, 0, none⟩ = some (.slice B m d) := HX6.out.cell 0
    have x1 : wc.cell? ⟨gx, 1, none⟩ = some (.int .i64 st) := HX6.out.cell 1
    clear h9 hP0
    go_wp2_with fail
    refine Calls.mono (refLost_any B m d l st _ hm2 (HP.out.keep HB6.out) HF0.out) ?_
    rintro x w7 ⟨v7, rfl, ho, hb⟩
    have HB7 : Hid (Below w.heap.size w w7) := HB6.out.trans (hb.mono HB6.out.size)
    have P7 := Lib.hid (own_below P6.out hb)
    have Q7 := Lib.hid (own_below Q6.out hb)
    have R7 := Lib.hid (own_below R6.out hb)
    have S7 := Lib.hid (own_below S6.out hb)
    have O7 := Lib.hid (O6.out.below hb)
    have T7 := Lib.hid ho
    rw [e1.out]
    rw [e2.out] at O7
    have hWL := lostVal_len st l
    obtain ⟨W7, hW7⟩ : ∃ W, W = lostVal st l := ⟨_, rfl⟩
    obtain ⟨E7, hE7⟩ : ∃ W, W = lostErr st l := ⟨_, rfl⟩
    rw [← hW7] at O7 T7 hWL
    rw [← hE7]
    clear hb ho x0 x1 HX6 HB6 P6 Q6 R6 S6 O6 e1 e2 h1 hW7 hE7
    obtain ⟨a1, d1, hv1, hI⟩ := pks_of P7.out HR3.out
    subst hv1
    have hI2 : PksAt w7 none 0 (recvL s []) := ⟨rfl, fun i hi => by simp at hi, fun h => by omega⟩
    obtain ⟨a3, d3, hv3, hH⟩ := spans_of Q7.out
    subst hv3
    have hH2 : HeardAt w7 none 0 [] := ⟨rfl, fun h => by omega⟩
    obtain ⟨a5, d5, hv5, hJ⟩ := own_form O7.out
    subst hv5
    obtain ⟨a6, d6, hv6, hJ2⟩ := own_form T7.out
    subst hv6
    have U1 := Lib.hid hI; have U2 := Lib.hid hI2; have U3 := Lib.hid hH; have U4 := Lib.hid hH2; have U5 := Lib.hid hJ; have U6 := Lib.hid hJ2
    clear hI hI2 hH hH2 hJ hJ2 P7 Q7 R7 S7 O7 T7
    as_aux_lemma =>
    go_wp2_with fail
    refine Calls.mono (back_any _ _ _ (recvL s []) _ U1.out (by simp)) ?_
    rintro x w8 ⟨a8, d8, rfl, hK, hb⟩
    have V1 := Lib.hid hK
    have V2 := Lib.hid (U2.out.keep hb); have V3 := Lib.hid (U3.out.keep hb); have V4 := Lib.hid (U4.out.keep hb); have V5 := Lib.hid (U5.out.keep hb); have V6 := Lib.hid (U6.out.keep hb)
    have HB8 : Hid (Below w.heap.size w w8) := HB7.out.trans (hb.mono HB7.out.size)
    clear hK hb U1 U2 U3 U4 U5 U6 HB7
    go_wp2_with fail
    refine Calls.mono (samePackets_same _ _ _ _ _ (recvL s []) _ (by simp) V1.out V2.out) ?_
    rintro x w9 ⟨rfl, hb⟩
    have X3 := Lib.hid (V3.out.keep hb); have X4 := Lib.hid (V4.out.keep hb); have X5 := Lib.hid (V5.out.keep hb); have X6 := Lib.hid (V6.out.keep hb)
    have HB9 : Hid (Below w.heap.size w w9) := HB8.out.trans (hb.mono HB8.out.size)
    clear hb V1 V2 V3 V4 V5 V6 HB8
    go_wp2_with fail
    refine Calls.mono (sameSpans_any _ _ _ _ _ _ (([] : List (Int × Int))) (([] : List (Int × Int))) _ (by omega) (by omega) X3.out X4.out) ?_
    rintro x w10 ⟨rfl, q1, hq1⟩
    rw [decide_eq_true (rfl : ([] : List (Int × Int)) = [])]
    have HB10 : Hid (Below w.heap.size w w10) := by show Below _ _ _; rw [hq1]; exact below_drewN' HB9.out q1
    have Y5 := Lib.hid (intsAt_drewN X5.out hq1); have Y6 := Lib.hid (intsAt_drewN X6.out hq1)
    clear hq1 HB9 X3 X4 X5 X6
    go_wp2_with fail
    refine Calls.mono (sameInts_any _ _ _ _ _ _ W7 W7 _ (by omega) (by omega) Y5.out Y6.out) ?_
    rintro x w11 ⟨rfl, q2, hq2⟩
    rw [show sameB W7 W7 = true by simp [sameB]]
    have HB11 : Hid (Below w.heap.size w w11) := by show Below _ _ _; rw [hq2]; exact below_drewN' HB10.out q2
    clear hq2 HB10 Y5 Y6
    go_wp2_with fail
    refine Calls.mono (awake_any _ (HST.out.keep HB11.out) (HT.out.keep HB11.out)) ?_
    rintro x w12 ⟨rfl, hb⟩
    have HB12 := Lib.hid (HB11.out.trans (Below.mono hb HB11.out.size))
    clear hb
    go_wp2
    go_ret
    exact ⟨rfl, HB12.out⟩
  · have h1 : (PP == 0) = false := by simp [hP0]
    have e1 : Hid (lostE l st = PP) := by show _ = _; unfold lostE; rw [if_neg (by rw [← HPP.out]; exact hP0)]; exact HPP.out.symm
    have e2 : Hid (lostL l st = []) := by show _ = _; unfold lostL; rw [if_neg (by rw [← HPP.out]; exact hP0)]
    have HB7 := Lib.hid HB6.out
    have P7 := Lib.hid P6.out
    have Q7 := Lib.hid Q6.out
    have R7 := Lib.hid R6.out
    have S7 := Lib.hid S6.out
    have O7 := Lib.hid O6.out
    rw [e1.out]
    rw [e2.out] at O7
    have T7 : Hid (OwnI wc w.heap.size (.slice none 0 0) []) := OwnI.nil _ _
    clear hP0 HX6 HB6 P6 Q6 R6 S6 O6 e1 e2
    obtain ⟨a1, d1, hv1, hI⟩ := pks_of P7.out HR3.out
    subst hv1
    have hI2 : PksAt wc none 0 (recvL s []) := ⟨rfl, fun i hi => by simp at hi, fun h => by omega⟩
    obtain ⟨a3, d3, hv3, hH⟩ := spans_of Q7.out
    subst hv3
    have hH2 : HeardAt wc none 0 [] := ⟨rfl, fun h => by omega⟩
    obtain ⟨a5, d5, hv5, hJ⟩ := own_form O7.out
    subst hv5
    have hJ2 : IntsAt wc none 0 [] := ⟨rfl, fun h => by omega⟩
    have U1 := Lib.hid hI; have U2 := Lib.hid hI2; have U3 := Lib.hid hH; have U4 := Lib.hid hH2; have U5 := Lib.hid hJ; have U6 := Lib.hid hJ2
    clear hI hI2 hH hH2 hJ hJ2 P7 Q7 R7 S7 O7 T7
    as_aux_lemma =>
    go_wp2_with fail
    refine Calls.mono (back_any _ _ _ (recvL s []) _ U1.out (by simp)) ?_
    rintro x w8 ⟨a8, d8, rfl, hK, hb⟩
    have V1 := Lib.hid hK
    have V2 := Lib.hid (U2.out.keep hb); have V3 := Lib.hid (U3.out.keep hb); have V4 := Lib.hid (U4.out.keep hb); have V5 := Lib.hid (U5.out.keep hb); have V6 := Lib.hid (U6.out.keep hb)
    have HB8 : Hid (Below w.heap.size w w8) := HB7.out.trans (hb.mono HB7.out.size)
    clear hK hb U1 U2 U3 U4 U5 U6 HB7
    go_wp2_with fail
    refine Calls.mono (samePackets_same _ _ _ _ _ (recvL s []) _ (by simp) V1.out V2.out) ?_
    rintro x w9 ⟨rfl, hb⟩
    have X3 := Lib.hid (V3.out.keep hb); have X4 := Lib.hid (V4.out.keep hb); have X5 := Lib.hid (V5.out.keep hb); have X6 := Lib.hid (V6.out.keep hb)
    have HB9 : Hid (Below w.heap.size w w9) := HB8.out.trans (hb.mono HB8.out.size)
    clear hb V1 V2 V3 V4 V5 V6 HB8
    go_wp2_with fail
    refine Calls.mono (sameSpans_any _ _ _ _ _ _ (([] : List (Int × Int))) (([] : List (Int × Int))) _ (by omega) (by omega) X3.out X4.out) ?_
    rintro x w10 ⟨rfl, q1, hq1⟩
    rw [decide_eq_true (rfl : ([] : List (Int × Int)) = [])]
    have HB10 : Hid (Below w.heap.size w w10) := by show Below _ _ _; rw [hq1]; exact below_drewN' HB9.out q1
    have Y5 := Lib.hid (intsAt_drewN X5.out hq1); have Y6 := Lib.hid (intsAt_drewN X6.out hq1)
    clear hq1 HB9 X3 X4 X5 X6
    go_wp2_with fail
    refine Calls.mono (sameInts_any _ _ _ _ _ _ [] [] _ (by simp) (by simp) Y5.out Y6.out) ?_
    rintro x w11 ⟨rfl, q2, hq2⟩
    rw [show sameB [] [] = true by simp [sameB]]
    have HB11 : Hid (Below w.heap.size w w11) := by show Below _ _ _; rw [hq2]; exact below_drewN' HB10.out q2
    clear hq2 HB10 Y5 Y6
    go_wp2_with fail
    refine Calls.mono (awake_any _ (HST.out.keep HB11.out) (HT.out.keep HB11.out)) ?_
    rintro x w12 ⟨rfl, hb⟩
    have HB12 := Lib.hid (HB11.out.trans (Below.mono hb HB11.out.size))
    clear hb
    go_wp2
    go_ret
    exact ⟨rfl, HB12.out⟩
end Go.Proofs.YtoipafnlcchmbaaGreatDoor
