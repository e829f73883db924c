/- Texts Qn Qp Iv Qc of the proof. -/
import Derived.Test.YtmafmebcgmegeaaGreatDoorX43
import Derived.Test.YtmafmebcgmegeaaGreatDoorX22
import Derived.ArgAppend
import Derived.Test.YtmafmebcgmegeaaGreatDoorX15
import Derived.Test.YtmafmebcgmegeaaGreatDoorX20
import Derived.Test.YtmafmebcgmegeaaGreatDoorX3
namespace Go.Proofs.YtmafmebcgmegeaaGreatDoor
open Go.RowKit Go.Sort
set_option maxHeartbeats 4000000 in
set_option maxRecDepth 100000 in
theorem refTrack_full (A : Option Addr) (n c : Nat) (l : List Bell.Fx) (w : World) (hl : TrAt w A n l) (hn : n ≤ 140737488351232) :
    Calls Tryz.prog 39 #[.slice A n c] w fun e w' => e = .returned (.int .i64 (trackE l)) ∧ Below w.heap.size w w' := by
  have HL := Lib.hid hl
  obtain ⟨V, hV⟩ : ∃ V, V = trackE l := ⟨_, rfl⟩
  have HV : Hid (V = andE (lengthE n 16) (andE (firstR (fxAtE l) n) (lastE l))) := by show _ = _; rw [hV, ← hl.1]; rfl
  rw [← hV]
  clear hl hV
  go_enter Tryz.func39, Tryz.ntmps39
  go_wp2_with fail
  refine (refWhen_let _ _ _).mono ?_
  rintro e w1 ⟨a, rfl, ha, rfl⟩
  go_wp2_with fail
  refine (refWhen_let _ _ _).mono ?_
  rintro e w2 ⟨b, rfl, hb, rfl⟩
  go_wp2_with fail
  refine (refFirst2 _ _ a b _ (by go_simp) (by go_simp)).mono ?_
  have hab := length_first ha.out hb.out
  obtain ⟨E, hE⟩ : ∃ E, E = lengthE n 16 := ⟨_, rfl⟩
  rw [hab, ← hE]
  rw [← hE] at HV
  have KE := Lib.hid hE
  clear hE hab ha hb
  rintro e w4 ⟨rfl, rfl⟩
  obtain ⟨w5, hw5⟩ : ∃ W, W = w2.alloc (.cells #[.int .i64 a, .int .i64 b] 3) := ⟨_, rfl⟩
  rw [← hw5]
  have hbl : Below w2.heap.size w2 w5 := by rw [hw5]; exact (Below.refl _ _).alloc (Nat.le_refl _) _
  have H5 := Lib.hid (HL.out.keep hbl)
  have HB := Lib.hid hbl
  clear hw5 hbl HL
  by_cases he : E = 0
  case neg =>
    have h1 : (E != 0) = true := by simp [he]
    have hr : Hid (V = E) := by show _ = _; rw [HV.out, andE_n he]
    go_wp2
    go_ret
    exact ⟨ret_int hr.out.symm, HB.out⟩
  have h1 : (E != 0) = false := by simp [he]
  have n1 : 2 ≤ n := by have := lengthE_zero2 (k := 16) (KE.out.symm.trans he); omega
  replace HV : Hid (V = andE (firstR (fxAtE l) n) (lastE l)) := by show _ = _; rw [HV.out, andE_0 he]
  obtain ⟨bb, off, rfl, hc⟩ := H5.out.2 (by omega)
  clear hc KE he
  go_wp2
  go_loopw [2, 4, 5] (fun _ k _ wr => ∃ j : Nat, j ≤ n ∧ k = .int .i64 j ∧ Hid (∀ i, i < j → fxAtE l i = 0) ∧ Hid (Below w5.heap.size w5 wr)) (fun _ k _ _ => n - (intOf k).toNat)
  case atStart => exact ⟨0, Nat.zero_le _, rfl, (fun i hi => by omega), Below.refl _ _⟩
  case round =>
    clear h1
    obtain ⟨j, hj, rfl, hz, hb⟩ := hrel
    by_cases hlt : j < n
    · obtain ⟨b', o', e', hcc⟩ := (H5.out.keep hb.out).2 (by omega)
      cases e'
      obtain ⟨h0, h1, h2, h3, h4⟩ := hcc.2 j hlt
      have HJ : Hid (fxAtE l j = andE (fixE (Bell.fxAt l j).t (Bell.fxAt l j).x (Bell.fxAt l j).y (Bell.fxAt l j).z (Bell.fxAt l j).p) (if 0 < j ∧ (Bell.fxAt l j).t ≤ (Bell.fxAt l (j - 1)).t then 11 else 0)) := rfl
      have HQQ := Lib.hid (fun p (hp : p < n) => hcc.2 p hp)
      obtain ⟨tt, htt⟩ : ∃ x, x = (Bell.fxAt l j).t := ⟨_, rfl⟩
      obtain ⟨x, hx⟩ : ∃ x, x = (Bell.fxAt l j).x := ⟨_, rfl⟩
      obtain ⟨y, hy⟩ : ∃ y, y = (Bell.fxAt l j).y := ⟨_, rfl⟩
      obtain ⟨z, hz0⟩ : ∃ z, z = (Bell.fxAt l j).z := ⟨_, rfl⟩
      obtain ⟨pw, hpw⟩ : ∃ z, z = (Bell.fxAt l j).p := ⟨_, rfl⟩
      rw [← htt] at h0 HJ
      rw [← hx] at h1 HJ
      rw [← hy] at h2 HJ
      rw [← hz0] at h3 HJ
      rw [← hpw] at h4 HJ
      have a0 := fun d os => cell_regrown h0 d os
      have a1 := fun d os => cell_regrown h1 d os
      have a2 := fun d os => cell_regrown h2 d os
      have a3 := fun d os => cell_regrown h3 d os
      have a4 := fun d os => cell_regrown h4 d os
      have ct := fun d os => Calls.regrown_of (Calls.grow_same (refTick_st tt (grow (redrawn wr d) os)))
      have cp := fun d os => Calls.regrown_of (Calls.grow_same (refPower_st pw (grow (redrawn wr d) os)))
      have cl := fun d os => Calls.regrown_of (refPlace_any x y z (grow (redrawn wr d) os))
      clear htt hx hy hz0 hpw h0 h1 h2 h3 h4 hcc
      have pl : (j : Int) < (n : Int) := by omega
      rcases Nat.eq_zero_or_pos j with rfl | hp
      · simp only [Nat.zero_mul, Nat.add_zero] at a0 a1 a2 a3 a4
        obtain ⟨f, hf⟩ : ∃ f : Int, f = if false = true then 11 else 0 := ⟨_, rfl⟩
        have HFf := Lib.hid hf
        have cw := fun d os => Calls.regrown_of (Calls.grow_same (refWhen_as (grow (redrawn wr d) os) hf))
        have HEQ : Hid (firstE [withinE tt 0 100000000, placeE x y z, withinE pw 1 100, f] = fxAtE l 0) := by
          show _ = _
          rw [show firstE [withinE tt 0 100000000, placeE x y z, withinE pw 1 100, f] = andE (fixE tt x y z pw) f from firstE4_and _ _ _ _, HJ.out, HFf.out]
          simp
        clear hf HJ HFf HQQ
        go_wp2
        refine wp_region_below_tail 36 (by kernel_rfl) (by kernel_rfl) ?_
        simp only [List.take_succ_cons, List.take_zero, List.drop_succ_cons, List.drop_zero]
        iterate 5 (go_big_quiet_step (fail))
        go_big_quiet_step (exact ct _ _)
        clear ct
        iterate 5 (go_big_quiet_step (fail))
        go_big_quiet_step (exact cl _ _)
        clear cl a1 a2 a3
        iterate 5 (go_big_quiet_step (fail))
        go_big_quiet_step (exact cp _ _)
        clear cp a4
        iterate 17 (go_big_quiet_step (fail))
        go_big_quiet_step (exact cw _ _)
        clear cw
        refine wpQuiet_nil ?_
        intro w6 hw'
        obtain ⟨⟨dq, osq⟩, hw''⟩ := hw'
        have HB6 := Lib.hid (hb.out.trans ((below_regrown wr dq osq).mono hb.out.size))
        rw [← hw''] at HB6
        clear hw''
        go_wp2_with fail
        refine (refFirst4 _ _ (withinE tt 0 100000000) (placeE x y z) (withinE pw 1 100) f _ (by go_simp) (by go_simp) (by go_simp) (by go_simp)).mono ?_
        rw [HEQ.out]
        obtain ⟨F, hF⟩ : ∃ F, F = fxAtE l 0 := ⟨_, rfl⟩
        rw [← hF]
        have HF := Lib.hid hF
        clear hF
        rintro e w7 ⟨rfl, rfl⟩
        obtain ⟨w8, hw8⟩ : ∃ W, W = w6.alloc (.cells #[.int .i64 (withinE tt 0 100000000), .int .i64 (placeE x y z), .int .i64 (withinE pw 1 100), .int .i64 f] 3) := ⟨_, rfl⟩
        rw [← hw8]
        have HB8 : Hid (Below w5.heap.size w5 w8) := by show Below _ _ _; rw [hw8]; exact HB6.out.alloc HB6.out.size _
        clear hw8 HB6
        by_cases hf : F = 0
        · have h1 : (F != 0) = false := by simp [hf]
          have HF0 := Lib.hid hf
          clear hf
          go_wp2
          go_roundw
          case rel =>
            refine ⟨0 + 1, by omega, by go_num, fun i hi => ?_, HB8⟩
            by_cases hij : i < 0
            · exact hz.out i hij
            · obtain rfl : i = 0 := by omega
              exact HF.out.symm.trans HF0.out
          case measure => simp [intOf]; omega
        · have h1 : (F != 0) = true := by simp [hf]
          have hr : Hid (V = F) := by show _ = _; rw [HV.out, firstR_hit hlt hz.out (by rw [← HF.out]; exact hf), andE_n (by rw [← HF.out]; exact hf), HF.out]
          go_wp2
          go_ret
          exact ⟨ret_int hr.out.symm, HB.out.trans (HB8.out.mono HB.out.size)⟩
      · have g0 : decide (0 < j) = true := decide_eq_true hp
        have g1 : decide ((0 : Int) < (j : Int)) = true := decide_eq_true (by omega)
        have g2 : decide ((j : Int) = 0) = false := decide_eq_false (by omega)
        have g3 : ((j : Int) == 0) = false := by simp; omega
        obtain ⟨p, hpj⟩ : ∃ p, p + 1 = j := ⟨j - 1, by omega⟩
        obtain ⟨k0, _⟩ := HQQ.out p (by omega)
        have hp1 : j - 1 = p := by omega
        rw [hp1] at HJ
        obtain ⟨u, hu⟩ : ∃ u, u = (Bell.fxAt l p).t := ⟨_, rfl⟩
        rw [← hu] at k0 HJ
        have ap := fun d os => cell_regrown k0 d os
        have hmx : ∀ ts t W, (Builtin.max_ ts t #[.int .i64 0, .int .i64 ((j : Int) - 1)]).run Tryz.prog W = .ok (.int .i64 (p : Int)) W := fun ts t W => by
          rw [run_max2']; congr 2; omega
        have pl2 : (p : Int) < (n : Int) := by omega
        have wj : IntKind.i64.wrap ((j : Int) - 1) = (j : Int) - 1 := IntWalk.i64_in _ (by omega)
        obtain ⟨B, hB⟩ : ∃ B, decide (tt ≤ u) = B := ⟨_, rfl⟩
        obtain ⟨f, hf⟩ : ∃ f : Int, f = if B then 11 else 0 := ⟨_, rfl⟩
        have cw := fun d os => Calls.regrown_of (Calls.grow_same (refWhen_as (grow (redrawn wr d) os) hf))
        have HEQ : Hid (firstE [withinE tt 0 100000000, placeE x y z, withinE pw 1 100, f] = fxAtE l j) := by
          show _ = _
          rw [show firstE [withinE tt 0 100000000, placeE x y z, withinE pw 1 100, f] = andE (fixE tt x y z pw) f from firstE4_and _ _ _ _, HJ.out, hf, ← hB]
          congr 1
          by_cases h1 : tt ≤ u <;> simp [h1, hp]
        clear hu hf HJ HQQ k0 hpj hp1
        go_wp2
        refine wp_region_below_tail 36 (by kernel_rfl) (by kernel_rfl) ?_
        simp only [List.take_succ_cons, List.take_zero, List.drop_succ_cons, List.drop_zero]
        iterate 5 (go_big_quiet_step (fail))
        go_big_quiet_step (exact ct _ _)
        clear ct
        iterate 5 (go_big_quiet_step (fail))
        go_big_quiet_step (exact cl _ _)
        clear cl a1 a2 a3
        iterate 5 (go_big_quiet_step (fail))
        go_big_quiet_step (exact cp _ _)
        clear cp a4
        iterate 17 (go_big_quiet_step (fail))
        go_big_quiet_step (exact cw _ _)
        clear cw
        refine wpQuiet_nil ?_
        intro w6 hw'
        obtain ⟨⟨dq, osq⟩, hw''⟩ := hw'
        have HB6 := Lib.hid (hb.out.trans ((below_regrown wr dq osq).mono hb.out.size))
        rw [← hw''] at HB6
        clear hw''
        go_wp2_with fail
        refine (refFirst4 _ _ (withinE tt 0 100000000) (placeE x y z) (withinE pw 1 100) f _ (by go_simp) (by go_simp) (by go_simp) (by go_simp)).mono ?_
        rw [HEQ.out]
        obtain ⟨F, hF⟩ : ∃ F, F = fxAtE l j := ⟨_, rfl⟩
        rw [← hF]
        have HF := Lib.hid hF
        clear hF
        rintro e w7 ⟨rfl, rfl⟩
        obtain ⟨w8, hw8⟩ : ∃ W, W = w6.alloc (.cells #[.int .i64 (withinE tt 0 100000000), .int .i64 (placeE x y z), .int .i64 (withinE pw 1 100), .int .i64 f] 3) := ⟨_, rfl⟩
        rw [← hw8]
        have HB8 : Hid (Below w5.heap.size w5 w8) := by show Below _ _ _; rw [hw8]; exact HB6.out.alloc HB6.out.size _
        clear hw8 HB6
        by_cases hf : F = 0
        · have h1 : (F != 0) = false := by simp [hf]
          have HF0 := Lib.hid hf
          clear hf
          go_wp2
          go_roundw
          case rel =>
            refine ⟨j + 1, by omega, by go_num, fun i hi => ?_, HB8⟩
            by_cases hij : i < j
            · exact hz.out i hij
            · obtain rfl : i = j := by omega
              exact HF.out.symm.trans HF0.out
          case measure => simp [intOf]; omega
        · have h1 : (F != 0) = true := by simp [hf]
          have hr : Hid (V = F) := by show _ = _; rw [HV.out, firstR_hit hlt hz.out (by rw [← HF.out]; exact hf), andE_n (by rw [← HF.out]; exact hf), HF.out]
          go_wp2
          go_ret
          exact ⟨ret_int hr.out.symm, HB.out.trans (HB8.out.mono HB.out.size)⟩
    · obtain rfl : j = n := by omega
      replace HV : Hid (V = lastE l) := by show _ = _; rw [HV.out, firstR_miss hz.out, andE_0 rfl]
      obtain ⟨m, hm⟩ : ∃ m, m + 1 = j := ⟨j - 1, by omega⟩
      have HLN : Hid (l.length = j) := H5.out.1
      obtain ⟨b', o', e', hcc⟩ := (H5.out.keep hb.out).2 (by omega)
      cases e'
      have hA := (hcc.2 0 (by omega)).1
      have hZ := (hcc.2 m (by omega)).1
      have ga := goodFx_fix (andE_zero (hz.out 0 (by omega))).1
      have gz := goodFx_fix (andE_zero (hz.out m (by omega))).1
      have gA := ga.t0
      have gA2 := ga.t1
      have gZ := gz.t0
      have gZ2 := gz.t1
      have HVL : Hid (V = if 1000 < (Bell.fxAt l m).t - (Bell.fxAt l 0).t then 14 else 0) := by show _ = _; rw [HV.out]; unfold lastE; rw [HLN.out, show j - 1 = m by omega]
      obtain ⟨P, hP⟩ : ∃ P, P = Bell.fxAt l 0 := ⟨_, rfl⟩
      obtain ⟨Z, hZZ⟩ : ∃ Z, Z = Bell.fxAt l m := ⟨_, rfl⟩
      rw [← hP] at hA gA gA2 HVL
      rw [← hZZ] at hZ gZ gZ2 HVL
      simp only [Nat.zero_mul, Nat.add_zero] at hA
      have a0 := fun d os => cell_regrown hA d os
      have a1 := fun d os => cell_regrown hZ d os
      have w1 : IntKind.i64.wrap ((j : Int) - 1) = (m : Int) := by rw [IntWalk.i64_in _ (by omega)]; omega
      have pl : (m : Int) < (j : Int) := by omega
      have pl2 : (0 : Int) < (j : Int) := by omega
      obtain ⟨f, hf⟩ : ∃ f : Int, f = if decide (1000 < Z.t - P.t) = true then 14 else 0 := ⟨_, rfl⟩
      have cw := fun d os => Calls.regrown_of (Calls.grow_same (refWhen_as (grow (redrawn wr d) os) hf))
      have hr : Hid (V = f) := by show _ = _; rw [HVL.out, hf]; simp
      clear hm hA hZ hP hZZ hf hcc ga gz HVL
      go_wp2
      refine wp_region_below_tail 14 (by kernel_rfl) (by kernel_rfl) ?_
      simp only [List.take_succ_cons, List.take_zero, List.drop_succ_cons, List.drop_zero]
      iterate 13 (go_big_quiet_step (fail))
      go_big_quiet_step (exact cw _ _)
      refine wpQuiet_nil ?_
      intro w6 hw'
      obtain ⟨⟨dq, osq⟩, hw''⟩ := hw'
      have HB6 := Lib.hid (hb.out.trans ((below_regrown wr dq osq).mono hb.out.size))
      rw [← hw''] at HB6
      clear hw'' a0 a1 cw
      go_wp2
      go_ret
      exact ⟨ret_int hr.out.symm, HB.out.trans (HB6.out.mono HB.out.size)⟩
end Go.Proofs.YtmafmebcgmegeaaGreatDoor

namespace Go.Proofs.YtmafmebcgmegeaaGreatDoor
open Go.RowKit Go.Sort
theorem quo_facts {x d : Int} (hd : 1 ≤ d) : (x.tdiv d).natAbs ≤ x.natAbs ∧ (x.tmod d).natAbs < d.natAbs ∧ x.tmod d + x.tdiv d * d = x := by
  refine ⟨by rw [Int.natAbs_tdiv]; exact Nat.div_le_self _ _, ?_, ?_⟩
  · rw [Int.natAbs_tmod]; exact Nat.mod_lt _ (by omega)
  · rw [Int.mul_comm]; exact Int.tmod_add_mul_tdiv x d
set_option maxHeartbeats 400000 in
set_option maxRecDepth 100000 in
theorem refFloor_gen (x d : Int) (w : World) (hx : -100000000000000000 ≤ x ∧ x ≤ 100000000000000000) (hd : 1 ≤ d ∧ d ≤ 10000000) :
    Calls Tryz.prog 170 #[.int .i64 x, .int .i64 d] w fun e w' => e = .returned (.int .i64 (x / d)) ∧ w' = w := by
  obtain ⟨f1, f2, f3⟩ := quo_facts (x := x) hd.1
  have hf := Bell.floorR_is (n := x) (d := d) (by omega)
  obtain ⟨q, hq⟩ : ∃ q, x.tdiv d = q := ⟨_, rfl⟩
  obtain ⟨r, hr⟩ : ∃ r, x.tmod d = r := ⟨_, rfl⟩
  rw [hq] at f1 f3 hf
  rw [hr] at f2 f3
  obtain ⟨m, hm⟩ : ∃ m, q * d = m := ⟨_, rfl⟩
  rw [hm] at f3 hf
  have HF := Lib.hid hf
  have hd0 : ¬ d = 0 := by omega
  have w1 : IntKind.i64.wrap q = q := IntWalk.i64_in _ (by omega)
  have w2 : IntKind.i64.wrap m = m := IntWalk.i64_in _ (by omega)
  have w3 : IntKind.i64.wrap (q - 1) = q - 1 := IntWalk.i64_in _ (by omega)
  have HQ := Lib.hid hq
  by_cases h : x < m
  · have HH := Lib.hid h
    clear f1 f2 f3 hf hr
    go_enter Tryz.func170, Tryz.ntmps170
    go_wp2
    go_ret
    have h9 := HF.out
    rw [if_pos HH.out] at h9
    exact ⟨ret_int h9, rfl⟩
  · have HH := Lib.hid h
    clear f1 f2 f3 hf hr
    go_enter Tryz.func170, Tryz.ntmps170
    go_wp2
    go_ret
    have h9 := HF.out
    rw [if_neg (Int.not_lt.2 HH.out)] at h9
    exact ⟨ret_int h9, rfl⟩
theorem ceil_gen {x v : Int} (hv : 1 ≤ v) : 0 - (0 - x) / v = (x + v - 1) / v := by
  have h1 := Int.emod_add_mul_ediv (0 - x) v
  have h2 := Int.emod_nonneg (0 - x) (show v ≠ 0 by omega)
  have h3 := Int.emod_lt_of_pos (0 - x) (show 0 < v by omega)
  obtain ⟨q, hq⟩ : ∃ q, (0 - x) / v = q := ⟨_, rfl⟩
  rw [hq] at h1 ⊢
  have e1 : (0 - q) * v = -(v * q) := by rw [Int.sub_mul, Int.zero_mul, Int.zero_sub, Int.mul_comm]
  have e2 : (0 - q + 1) * v = -(v * q) + v := by rw [Int.add_mul, e1, Int.one_mul]
  apply Int.le_antisymm
  · apply Int.le_ediv_of_mul_le (by omega)
    rw [e1]; omega
  · have : (x + v - 1) / v < 0 - q + 1 := Int.ediv_lt_of_lt_mul (by omega) (by rw [e2]; omega)
    omega
set_option maxHeartbeats 400000 in
set_option maxRecDepth 100000 in
theorem refCeil_gen (x v : Int) (w : World) (hx : 0 ≤ x ∧ x ≤ 10000000000) (hv : 1 ≤ v ∧ v ≤ 1000) :
    Calls Tryz.prog 131 #[.int .i64 x, .int .i64 v] w fun e w' => e = .returned (.int .i64 ((x + v - 1) / v)) ∧ w' = w := by
  have hc := ceil_gen (x := x) hv.1
  rw [Int.zero_sub, Int.zero_sub] at hc
  have HFL := Lib.hid (fun W => refFloor_gen (-x) v W (by omega) (by omega))
  have w1 : IntKind.i64.wrap (-x) = -x := IntWalk.i64_in _ (by omega)
  have hq1 : 0 ≤ (x + v - 1) / v := Int.ediv_nonneg (by omega) (by omega)
  have hq2 : (x + v - 1) / v ≤ x + v - 1 := Int.ediv_le_self _ (by omega)
  obtain ⟨q, hq⟩ : ∃ q, q = (-x) / v := ⟨_, rfl⟩
  obtain ⟨R, hR⟩ : ∃ R, R = (x + v - 1) / v := ⟨_, rfl⟩
  rw [← hq] at hc HFL
  rw [← hR] at hc hq1 hq2 ⊢
  have w2 : IntKind.i64.wrap (-q) = -q := IntWalk.i64_in _ (by omega)
  have HC := Lib.hid hc
  clear hR
  clear hc hq hq1 hq2
  go_enter Tryz.func131, Tryz.ntmps131
  go_wp2_with fail
  refine (HFL.out _).mono ?_
  rintro e w' ⟨rfl, rfl⟩
  go_wp2
  go_ret
  exact ⟨ret_int (by have := HC.out; omega), rfl⟩
set_option maxHeartbeats 400000 in
set_option maxRecDepth 100000 in
theorem refBetween_gen (a b p v : Int) (w : World) (ha : 0 ≤ a ∧ a ≤ 20000) (hb : 0 ≤ b ∧ b ≤ 20000) (hp : 0 ≤ p ∧ p ≤ 10000000) (hv : 1 ≤ v ∧ v ≤ 10000000) (hpv : p ≤ v) :
    Calls Tryz.prog 107 #[.int .i64 a, .int .i64 b, .int .i64 p, .int .i64 v] w fun e w' => e = .returned (.int .i64 (Bell.betw a b p v)) ∧ w' = w := by
  have hm : ((b - a) * p).natAbs ≤ 20000 * 10000000 := by
    rw [Int.natAbs_mul]
    exact Nat.mul_le_mul (by omega) (by omega)
  have hB := Bell.betw_bounds (a := a) (b := b) (lo := 0) (hi := 20000) (p := p) (w := v) (by omega) hp.1 hpv ha.1 hb.1 ha.2 hb.2
  have HFL := Lib.hid (fun W => refFloor_gen ((b - a) * p) v W (by omega) hv)
  obtain ⟨m, hmm⟩ : ∃ m, m = (b - a) * p := ⟨_, rfl⟩
  obtain ⟨q, hq⟩ : ∃ q, q = m / v := ⟨_, rfl⟩
  have e : Bell.betw a b p v = a + q := by unfold Bell.betw; rw [hq, hmm]
  rw [← hmm] at hm HFL
  rw [← hq] at HFL
  rw [e] at hB ⊢
  have w1 : IntKind.i64.wrap (b - a) = b - a := IntWalk.i64_in _ (by omega)
  have w2 : IntKind.i64.wrap ((b - a) * p) = m := by rw [← hmm]; exact IntWalk.i64_in _ (by omega)
  have w3 : IntKind.i64.wrap (a + q) = a + q := IntWalk.i64_in _ (by omega)
  clear hB hm hmm hq e ha hb hp hv hpv
  go_enter Tryz.func107, Tryz.ntmps107
  go_wp2_with fail
  refine (HFL.out _).mono ?_
  rintro e w' ⟨rfl, rfl⟩
  go_wp2
  go_ret
  exact ⟨rfl, rfl⟩
end Go.Proofs.YtmafmebcgmegeaaGreatDoor

namespace Go.Proofs.YtmafmebcgmegeaaGreatDoor
open Go.RowKit Go.Sort
/-- A slice of integers of one's own, as memory grows. -/
def GR.ints (B : Nat) (zs : List Int) : GR := ⟨fun v W => OwnI W B v zs, fun h hE => h.below hE⟩
/-- A slice with no room. -/
def GR.bare : GR := ⟨fun v _ => ∃ g, v = .slice (some ⟨g, 0, none⟩) 0 0, fun h _ => h⟩
/-- The cells of a type with lists of one's own. -/
def tyW (nm : ByteArray) (va : Value) (T : Bell.Ty) (vq vs : Value) : Array Value := #[.string nm, va, .int .i64 (T.direct.getD 0 0), .int .i64 (T.direct.getD 1 0), .int .i64 (T.direct.getD 2 0), .int .i64 (T.direct.getD 3 0), .int .i64 (T.direct.getD 4 0), .int .i64 (T.direct.getD 5 0), .int .i64 (T.direct.getD 6 0), .int .i64 (T.direct.getD 7 0), .int .i64 T.side, vq, vs]
def GR.ty (B : Nat) (nm : ByteArray) (sh : List Int) (T : Bell.Ty) : GR :=
  ⟨fun v W => ∃ va vq, v = .agg (tyW nm va T vq (.slice none 0 0)) ∧ OwnI W B va sh ∧ OwnI W B vq T.squares, fun ⟨va, vq, e, h1, h2⟩ hE => ⟨va, vq, e, h1.below hE, h2.below hE⟩⟩
/-- A setting with its own list; a slice of it alone. -/
def GR.set (B : Nat) (p : Int) (zs : List Int) : GR := ⟨fun v W => ∃ A m c, v = .agg #[.int .i64 p, .slice A m c] ∧ OwnI W B (.slice A m c) zs, fun ⟨A, m, c, e, h⟩ hE => ⟨A, m, c, e, h.below hE⟩⟩
def GR.one (B : Nat) (p : Int) (zs : List Int) : GR := ⟨fun v W => ∃ g A m c, v = .slice (some ⟨g, 0, none⟩) 1 1 ∧ Blk W g 172 #[.int .i64 p, .slice A m c] ∧ OwnI W B (.slice A m c) zs, fun ⟨g, A, m, c, e, h1, h2⟩ hE => ⟨g, A, m, c, e, h1.below hE, h2.below hE⟩⟩
/-- A new block. -/
def GR.new (B : Nat) (t : TypeId) (cs : Array Value) : GR := ⟨fun v W => ∃ g, v = .pointer (some ⟨g, 0, none⟩) ∧ B ≤ g ∧ Blk W g t cs, fun ⟨g, e, h1, h2⟩ hE => ⟨g, e, h1, h2.below hE⟩⟩
theorem IntsAt.cellsAt {w : World} {g o n : Nat} {zs : List Int} (h : IntsAt w (some ⟨g, o, none⟩) n zs) : ∀ j u, (zs.map (Value.int .i64))[j]? = some u → w.cell? ((⟨g, o, none⟩ : Addr).add j) = some u := fun j u hu => by
  have hj : j < n := by
    have := (List.getElem?_eq_some_iff.1 hu).1
    rw [List.length_map, h.1] at this
    exact this
  obtain ⟨b, off, he, hh⟩ := h.2 (by omega)
  cases he
  rw [addAddr, hh j hj, ← hu]
  simp [List.getD_eq_getElem?_getD, List.getElem?_eq_getElem (show j < zs.length by rw [h.1]; exact hj)]
/-- The cells of settings. -/
def stCells (P : List (Int × Value)) : List Value := P.flatMap fun p => [.int .i64 p.1, p.2]
/-- Rows of different types lie in different blocks. -/
theorem row_ext {W W' : World} {base : Nat} {e : TypeId} {size n : Nat} {v : Value} {xs : List Value} (h : W.ownsRow base e size v n xs) (hE : Ext W W') : W'.ownsRow base e size v n xs := by
  refine World.ownsRow.kept h (row := none) ⟨hE.os, hE.tape, hE.output, hE.size, fun k hk _ => hE.block k hk⟩ ?_
  cases hv : v.ownBlock with
  | none => exact .inl rfl
  | some b => exact .inr (by simp)
theorem _root_.Go.RowKit.Below.ext {A B C : World} (h : Below A.heap.size A B) (k : Ext B C) : Ext A C := Ext.trans h k
theorem OwnI.slice {W : World} {B : Nat} {v : Value} {zs : List Int} (h : OwnI W B v zs) : ∃ A m c, v = .slice A m c ∧ IntsAt W A m zs := by
  rcases h.form with ⟨rfl, _⟩ | ⟨g, cap, rfl, _⟩
  · exact ⟨_, _, _, rfl, h.at_⟩
  · exact ⟨_, _, _, rfl, h.at_⟩
theorem OwnI.room {W : World} {B : Nat} {A : Option Addr} {n c : Nat} {zs : List Int} (h : OwnI W B (.slice A n c) zs) (hn : 0 < n) : (∃ g, A = some ⟨g, 0, none⟩) ∧ n ≤ c ∧ c ≤ 9223372036854775807 := by
  rcases h.2 with ⟨hv, _⟩ | ⟨g, cap, cur, hv, _, _, h1, h2, _⟩
  · simp at hv; omega
  · simp only [Value.slice.injEq] at hv
    obtain ⟨rfl, e, rfl⟩ := hv
    unfold maxLen at h2
    exact ⟨⟨g, rfl⟩, by omega, by omega⟩
theorem Ext.alloc (W : World) (o : Obj) : Ext W (W.alloc o) := (Below.refl _ _).alloc (Nat.le_refl _) _
end Go.Proofs.YtmafmebcgmegeaaGreatDoor

namespace Go.Proofs.YtmafmebcgmegeaaGreatDoor
open Go.RowKit Go.Sort
theorem OwnI.sl {W : World} {B n : Nat} {v : Value} {zs : List Int} (h : OwnI W B v zs) (hl : zs.length = n) (hn : 0 < n) : ∃ A c, v = .slice A n c := by
  rcases h.form with ⟨h1, h2⟩ | ⟨g3, c3, h1, _⟩
  · exfalso; rw [h2] at hl; simp at hl; omega
  · exact ⟨_, _, by rw [h1, hl]⟩
theorem cell_kept {W W' : World} (hE : Ext W W') {p : Addr} {v : Value} (h : W.cell? p = some v) : W'.cell? p = some v := by
  rw [hE.below.cell (World.block_lt_of_cell? _ _ h)]; exact h
theorem row_high {w W : World} {base : Nat} {t : TypeId} {size n : Nat} {v : Value} {xs : List Value} (h : w.ownsRow base t size v n xs) (k : ∀ b, base ≤ b → b < w.heap.size → W.heap[b]? = w.heap[b]?) : W.ownsRow base t size v n xs := by
  rcases h with ⟨h1, h2 | ⟨g, cap, cur, hv, hg, hc, r⟩⟩
  · exact ⟨h1, .inl h2⟩
  · refine ⟨h1, .inr ⟨g, cap, cur, hv, hg, ?_, r⟩⟩
    exact (k g hg (Array.getElem?_eq_some_iff.1 hc).1).trans hc
/-- A type of the reference whose lists are one's own. -/
structure OwnTy (w : World) (base : Nat) (sh : List Int) (T : Bell.Ty) (A1 : Option Addr) (sn c1 gq qn c2 gS gn cS : Nat) (P : List (Int × Value)) : Prop where
  sh : OwnI w base (.slice A1 sn c1) sh
  sq : OwnI w base (.slice (some ⟨gq, 0, none⟩) qn c2) T.squares
  row : w.ownsRow base 145 2 (.slice (some ⟨gS, 0, none⟩) gn cS) gn (stCells P)
  len : P.length = gn
  each : ∀ j, j < gn → (P.getD j (0, undef)).1 = Bell.ePow T.sets j ∧ OwnI w base (P.getD j (0, undef)).2 ((T.sets.getD j (0, [])).2)
  cap : qn ≤ c2 ∧ c2 ≤ 9223372036854775807
theorem OwnTy.high {w W : World} {base : Nat} {sh : List Int} {T : Bell.Ty} {A1 : Option Addr} {sn c1 gq qn c2 gS gn cS : Nat} {P : List (Int × Value)} (h : OwnTy w base sh T A1 sn c1 gq qn c2 gS gn cS P) (k : ∀ b, base ≤ b → b < w.heap.size → W.heap[b]? = w.heap[b]?) : OwnTy W base sh T A1 sn c1 gq qn c2 gS gn cS P :=
  ⟨row_high h.sh k, row_high h.sq k, row_high h.row k, h.len, fun j hj => ⟨(h.each j hj).1, row_high (h.each j hj).2 k⟩, h.cap⟩
end Go.Proofs.YtmafmebcgmegeaaGreatDoor
