/- Texts Qn of the proof. -/
import Derived.Test.YtmafmebcgmegeaaGreatDoorFz32
import Derived.Test.YtmafmebcgmegeaaGreatDoorFz17
namespace Go.Proofs.YtmafmebcgmegeaaGreatDoor
open Go.RowKit Go.Sort
set_option maxHeartbeats 4000000 in
set_option maxRecDepth 100000 in
theorem refTrack_full (A : Option Addr) (n c : Nat) (l : List Bell.Fx) (w : World) (hl : TrAt w A n l) (hn : n ≤ 140737488351232) :
    Calls Tryz.prog 39 #[.slice A n c] w fun e w' => e = .returned (.int .i64 (trackE l)) ∧ Below w.heap.size w w' := by
  have HL := Lib.hid hl; obtain ⟨V, hV⟩ : ∃ V, V = trackE l := ⟨_, rfl⟩; have HV : Hid (V = andE (lengthE n 16) (andE (firstR (fxAtE l) n) (lastE l))) := by show _ = _; rw [hV, ← hl.1]; rfl
  rw [← hV]; clear hl hV
  go_enter Tryz.func39, Tryz.ntmps39
  go_wp2_with fail
  refine (refWhen_let _ _ _).mono ?_; rintro e w1 ⟨a, rfl, ha, rfl⟩
  go_wp2_with fail
  refine (refWhen_let _ _ _).mono ?_; rintro e w2 ⟨b, rfl, hb, rfl⟩
  go_wp2_with fail
  refine (refFirst2 _ _ a b _ (by go_simp) (by go_simp)).mono ?_; have hab := length_first ha.out hb.out; obtain ⟨E, hE⟩ : ∃ E, E = lengthE n 16 := ⟨_, rfl⟩; rw [hab, ← hE]; rw [← hE] at HV; have KE := Lib.hid hE; clear hE hab ha hb; rintro e w4 ⟨rfl, rfl⟩; obtain ⟨w5, hw5⟩ : ∃ W, W = w2.alloc (.cells #[.int .i64 a, .int .i64 b] 3) := ⟨_, rfl⟩; rw [← hw5]; have hbl : Below w2.heap.size w2 w5 := by rw [hw5]; exact (Below.refl _ _).alloc (Nat.le_refl _) _
  have H5 := Lib.hid (HL.out.keep hbl); have HB := Lib.hid hbl; clear hw5 hbl HL
  by_cases he : E = 0
  case neg =>
    have h1 : (E != 0) = true := by simp [he]
    have hr : Hid (V = E) := by show _ = _; rw [HV.out, andE_n he]
    go_wp2
    go_ret
    exact ⟨ret_int hr.out.symm, HB.out⟩
  have h1 : (E != 0) = false := by simp [he]
  have n1 : 2 ≤ n := by have := lengthE_zero2 (k := 16) (KE.out.symm.trans he); omega
  replace HV : Hid (V = andE (firstR (fxAtE l) n) (lastE l)) := by show _ = _; rw [HV.out, andE_0 he]
  obtain ⟨bb, off, rfl, hc⟩ := H5.out.2 (by omega); clear hc KE he; go_wp2
  go_loopw [2, 4, 5] (fun _ k _ wr => ∃ j : Nat, j ≤ n ∧ k = .int .i64 j ∧ Hid (∀ i, i < j → fxAtE l i = 0) ∧ Hid (Below w5.heap.size w5 wr)) (fun _ k _ _ => n - (intOf k).toNat)
  case atStart => exact ⟨0, Nat.zero_le _, rfl, (fun i hi => by omega), Below.refl _ _⟩
  case round =>
    clear h1; obtain ⟨j, hj, rfl, hz, hb⟩ := hrel
    by_cases hlt : j < n
    · obtain ⟨b', o', e', hcc⟩ := (H5.out.keep hb.out).2 (by omega)
      cases e'
      obtain ⟨h0, h1, h2, h3, h4⟩ := hcc.2 j hlt; have HJ : Hid (fxAtE l j = andE (fixE (Bell.fxAt l j).t (Bell.fxAt l j).x (Bell.fxAt l j).y (Bell.fxAt l j).z (Bell.fxAt l j).p) (if 0 < j ∧ (Bell.fxAt l j).t ≤ (Bell.fxAt l (j - 1)).t then 11 else 0)) := rfl; have HQQ := Lib.hid (fun p (hp : p < n) => hcc.2 p hp); obtain ⟨tt, htt⟩ : ∃ x, x = (Bell.fxAt l j).t := ⟨_, rfl⟩; obtain ⟨x, hx⟩ : ∃ x, x = (Bell.fxAt l j).x := ⟨_, rfl⟩; obtain ⟨y, hy⟩ : ∃ y, y = (Bell.fxAt l j).y := ⟨_, rfl⟩; obtain ⟨z, hz0⟩ : ∃ z, z = (Bell.fxAt l j).z := ⟨_, rfl⟩; obtain ⟨pw, hpw⟩ : ∃ z, z = (Bell.fxAt l j).p := ⟨_, rfl⟩; rw [← htt] at h0 HJ; rw [← hx] at h1 HJ; rw [← hy] at h2 HJ; rw [← hz0] at h3 HJ; rw [← hpw] at h4 HJ; have a0 := fun d os => cell_regrown h0 d os
      have a1 := fun d os => cell_regrown h1 d os
      have a2 := fun d os => cell_regrown h2 d os
      have a3 := fun d os => cell_regrown h3 d os
      have a4 := fun d os => cell_regrown h4 d os
      have ct := fun d os => Calls.regrown_of (Calls.grow_same (refTick_st tt (grow (redrawn wr d) os)))
      have cp := fun d os => Calls.regrown_of (Calls.grow_same (refPower_st pw (grow (redrawn wr d) os)))
      have cl := fun d os => Calls.regrown_of (refPlace_any x y z (grow (redrawn wr d) os))
      clear htt hx hy hz0 hpw h0 h1 h2 h3 h4 hcc; have pl : (j : Int) < (n : Int) := by omega
      rcases Nat.eq_zero_or_pos j with rfl | hp
      · simp only [Nat.zero_mul, Nat.add_zero] at a0 a1 a2 a3 a4; obtain ⟨f, hf⟩ : ∃ f : Int, f = if false = true then 11 else 0 := ⟨_, rfl⟩; have HFf := Lib.hid hf; have cw := fun d os => Calls.regrown_of (Calls.grow_same (refWhen_as (grow (redrawn wr d) os) hf))
        have HEQ : Hid (firstE [withinE tt 0 100000000, placeE x y z, withinE pw 1 100, f] = fxAtE l 0) := by
          show _ = _
          rw [show firstE [withinE tt 0 100000000, placeE x y z, withinE pw 1 100, f] = andE (fixE tt x y z pw) f from firstE4_and _ _ _ _, HJ.out, HFf.out]
          simp
        clear hf HJ HFf HQQ; go_wp2; refine wp_region_below_tail 36 (by kernel_rfl) (by kernel_rfl) ?_; simp only [List.take_succ_cons, List.take_zero, List.drop_succ_cons, List.drop_zero]
        iterate 5 (go_big_quiet_step (fail))
        go_big_quiet_step (exact ct _ _)
        clear ct
        iterate 5 (go_big_quiet_step (fail))
        go_big_quiet_step (exact cl _ _)
        clear cl a1 a2 a3
        iterate 5 (go_big_quiet_step (fail))
        go_big_quiet_step (exact cp _ _)
        clear cp a4
        iterate 17 (go_big_quiet_step (fail))
        go_big_quiet_step (exact cw _ _)
        clear cw; refine wpQuiet_nil ?_; intro w6 hw'; obtain ⟨⟨dq, osq⟩, hw''⟩ := hw'; have HB6 := Lib.hid (hb.out.trans ((below_regrown wr dq osq).mono hb.out.size)); rw [← hw''] at HB6; clear hw''
        go_wp2_with fail
        refine (refFirst4 _ _ (withinE tt 0 100000000) (placeE x y z) (withinE pw 1 100) f _ (by go_simp) (by go_simp) (by go_simp) (by go_simp)).mono ?_; rw [HEQ.out]; obtain ⟨F, hF⟩ : ∃ F, F = fxAtE l 0 := ⟨_, rfl⟩; rw [← hF]; have HF := Lib.hid hF; clear hF; rintro e w7 ⟨rfl, rfl⟩; obtain ⟨w8, hw8⟩ : ∃ W, W = w6.alloc (.cells #[.int .i64 (withinE tt 0 100000000), .int .i64 (placeE x y z), .int .i64 (withinE pw 1 100), .int .i64 f] 3) := ⟨_, rfl⟩; rw [← hw8]; have HB8 : Hid (Below w5.heap.size w5 w8) := by show Below _ _ _; rw [hw8]; exact HB6.out.alloc HB6.out.size _
        clear hw8 HB6
        by_cases hf : F = 0
        · have h1 : (F != 0) = false := by simp [hf]
          have HF0 := Lib.hid hf; clear hf; go_wp2; go_roundw
          case rel =>
            refine ⟨0 + 1, by omega, by go_num, fun i hi => ?_, HB8⟩
            by_cases hij : i < 0
            · exact hz.out i hij
            · obtain rfl : i = 0 := by omega
              exact HF.out.symm.trans HF0.out
          case measure => simp [intOf]; omega
        · have h1 : (F != 0) = true := by simp [hf]
          have hr : Hid (V = F) := by show _ = _; rw [HV.out, firstR_hit hlt hz.out (by rw [← HF.out]; exact hf), andE_n (by rw [← HF.out]; exact hf), HF.out]
          go_wp2
          go_ret
          exact ⟨ret_int hr.out.symm, HB.out.trans (HB8.out.mono HB.out.size)⟩
      · have g0 : decide (0 < j) = true := decide_eq_true hp; have g1 : decide ((0 : Int) < (j : Int)) = true := decide_eq_true (by omega); have g2 : decide ((j : Int) = 0) = false := decide_eq_false (by omega); have g3 : ((j : Int) == 0) = false := by simp; omega
        obtain ⟨p, hpj⟩ : ∃ p, p + 1 = j := ⟨j - 1, by omega⟩; obtain ⟨k0, _⟩ := HQQ.out p (by omega); have hp1 : j - 1 = p := by omega
        rw [hp1] at HJ; obtain ⟨u, hu⟩ : ∃ u, u = (Bell.fxAt l p).t := ⟨_, rfl⟩; rw [← hu] at k0 HJ; have ap := fun d os => cell_regrown k0 d os
        have hmx : ∀ ts t W, (Builtin.max_ ts t #[.int .i64 0, .int .i64 ((j : Int) - 1)]).run Tryz.prog W = .ok (.int .i64 (p : Int)) W := fun ts t W => by
          rw [run_max2']; congr 2; omega
        have pl2 : (p : Int) < (n : Int) := by omega
        have wj : IntKind.i64.wrap ((j : Int) - 1) = (j : Int) - 1 := IntWalk.i64_in _ (by omega); obtain ⟨B, hB⟩ : ∃ B, decide (tt ≤ u) = B := ⟨_, rfl⟩; obtain ⟨f, hf⟩ : ∃ f : Int, f = if B then 11 else 0 := ⟨_, rfl⟩; have cw := fun d os => Calls.regrown_of (Calls.grow_same (refWhen_as (grow (redrawn wr d) os) hf))
        have HEQ : Hid (firstE [withinE tt 0 100000000, placeE x y z, withinE pw 1 100, f] = fxAtE l j) := by
          show _ = _
          rw [show firstE [withinE tt 0 100000000, placeE x y z, withinE pw 1 100, f] = andE (fixE tt x y z pw) f from firstE4_and _ _ _ _, HJ.out, hf, ← hB]
          congr 1
          by_cases h1 : tt ≤ u <;> simp [h1, hp]
        clear hu hf HJ HQQ k0 hpj hp1; go_wp2; refine wp_region_below_tail 36 (by kernel_rfl) (by kernel_rfl) ?_; simp only [List.take_succ_cons, List.take_zero, List.drop_succ_cons, List.drop_zero]
        iterate 5 (go_big_quiet_step (fail))
        go_big_quiet_step (exact ct _ _)
        clear ct
        iterate 5 (go_big_quiet_step (fail))
        go_big_quiet_step (exact cl _ _)
        clear cl a1 a2 a3
        iterate 5 (go_big_quiet_step (fail))
        go_big_quiet_step (exact cp _ _)
        clear cp a4
        iterate 17 (go_big_quiet_step (fail))
        go_big_quiet_step (exact cw _ _)
        clear cw; refine wpQuiet_nil ?_; intro w6 hw'; obtain ⟨⟨dq, osq⟩, hw''⟩ := hw'; have HB6 := Lib.hid (hb.out.trans ((below_regrown wr dq osq).mono hb.out.size)); rw [← hw''] at HB6; clear hw''
        go_wp2_with fail
        refine (refFirst4 _ _ (withinE tt 0 100000000) (placeE x y z) (withinE pw 1 100) f _ (by go_simp) (by go_simp) (by go_simp) (by go_simp)).mono ?_; rw [HEQ.out]; obtain ⟨F, hF⟩ : ∃ F, F = fxAtE l j := ⟨_, rfl⟩; rw [← hF]; have HF := Lib.hid hF; clear hF; rintro e w7 ⟨rfl, rfl⟩; obtain ⟨w8, hw8⟩ : ∃ W, W = w6.alloc (.cells #[.int .i64 (withinE tt 0 100000000), .int .i64 (placeE x y z), .int .i64 (withinE pw 1 100), .int .i64 f] 3) := ⟨_, rfl⟩; rw [← hw8]; have HB8 : Hid (Below w5.heap.size w5 w8) := by show Below _ _ _; rw [hw8]; exact HB6.out.alloc HB6.out.size _
        clear hw8 HB6
        by_cases hf : F = 0
        · have h1 : (F != 0) = false := by simp [hf]
          have HF0 := Lib.hid hf; clear hf; go_wp2; go_roundw
          case rel =>
            refine ⟨j + 1, by omega, by go_num, fun i hi => ?_, HB8⟩
            by_cases hij : i < j
            · exact hz.out i hij
            · obtain rfl : i = j := by omega
              exact HF.out.symm.trans HF0.out
          case measure => simp [intOf]; omega
        · have h1 : (F != 0) = true := by simp [hf]
          have hr : Hid (V = F) := by show _ = _; rw [HV.out, firstR_hit hlt hz.out (by rw [← HF.out]; exact hf), andE_n (by rw [← HF.out]; exact hf), HF.out]
          go_wp2
          go_ret
          exact ⟨ret_int hr.out.symm, HB.out.trans (HB8.out.mono HB.out.size)⟩
    · obtain rfl : j = n := by omega
      replace HV : Hid (V = lastE l) := by show _ = _; rw [HV.out, firstR_miss hz.out, andE_0 rfl]
      obtain ⟨m, hm⟩ : ∃ m, m + 1 = j := ⟨j - 1, by omega⟩; have HLN : Hid (l.length = j) := H5.out.1; obtain ⟨b', o', e', hcc⟩ := (H5.out.keep hb.out).2 (by omega)
      cases e'
      have hA := (hcc.2 0 (by omega)).1; have hZ := (hcc.2 m (by omega)).1; have ga := goodFx_fix (andE_zero (hz.out 0 (by omega))).1; have gz := goodFx_fix (andE_zero (hz.out m (by omega))).1; have gA := ga.t0; have gA2 := ga.t1; have gZ := gz.t0; have gZ2 := gz.t1; have HVL : Hid (V = if 1000 < (Bell.fxAt l m).t - (Bell.fxAt l 0).t then 14 else 0) := by show _ = _; rw [HV.out]; unfold lastE; rw [HLN.out, show j - 1 = m by omega]
      obtain ⟨P, hP⟩ : ∃ P, P = Bell.fxAt l 0 := ⟨_, rfl⟩; obtain ⟨Z, hZZ⟩ : ∃ Z, Z = Bell.fxAt l m := ⟨_, rfl⟩; rw [← hP] at hA gA gA2 HVL; rw [← hZZ] at hZ gZ gZ2 HVL; simp only [Nat.zero_mul, Nat.add_zero] at hA; have a0 := fun d os => cell_regrown hA d os
      have a1 := fun d os => cell_regrown hZ d os
      have w1 : IntKind.i64.wrap ((j : Int) - 1) = (m : Int) := by rw [IntWalk.i64_in _ (by omega)]; omega
      have pl : (m : Int) < (j : Int) := by omega
      have pl2 : (0 : Int) < (j : Int) := by omega
      obtain ⟨f, hf⟩ : ∃ f : Int, f = if decide (1000 < Z.t - P.t) = true then 14 else 0 := ⟨_, rfl⟩; have cw := fun d os => Calls.regrown_of (Calls.grow_same (refWhen_as (grow (redrawn wr d) os) hf))
      have hr : Hid (V = f) := by show _ = _; rw [HVL.out, hf]; simp
      clear hm hA hZ hP hZZ hf hcc ga gz HVL; go_wp2; refine wp_region_below_tail 14 (by kernel_rfl) (by kernel_rfl) ?_; simp only [List.take_succ_cons, List.take_zero, List.drop_succ_cons, List.drop_zero]
      iterate 13 (go_big_quiet_step (fail))
      go_big_quiet_step (exact cw _ _)
      refine wpQuiet_nil ?_; intro w6 hw'; obtain ⟨⟨dq, osq⟩, hw''⟩ := hw'; have HB6 := Lib.hid (hb.out.trans ((below_regrown wr dq osq).mono hb.out.size)); rw [← hw''] at HB6; clear hw'' a0 a1 cw; go_wp2; go_ret; exact ⟨ret_int hr.out.symm, HB.out.trans (HB6.out.mono HB.out.size)⟩
end Go.Proofs.YtmafmebcgmegeaaGreatDoor
