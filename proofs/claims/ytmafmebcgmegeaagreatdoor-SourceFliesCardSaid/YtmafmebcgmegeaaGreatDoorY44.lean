/- Texts Ql Qn Qp of the proof. -/
import Derived.BigQuiet
import Derived.Test.YtmafmebcgmegeaaGreatDoorY31
import Derived.Test.YtmafmebcgmegeaaGreatDoorY43
import Derived.Test.YtmafmebcgmegeaaGreatDoorY23
namespace Go.Proofs.YtmafmebcgmegeaaGreatDoor
open Go.RowKit Go.Sort
theorem firstE3_and (a b c : Int) : firstE [a, b, c] = andE (firstE [a, b]) c := by
  unfold andE
  by_cases h1 : a = 0 <;> by_cases h2 : b = 0 <;> by_cases h3 : c = 0 <;> simp_all [firstE]
theorem firstE4_and (a b c d : Int) : firstE [a, b, c, d] = andE (firstE [a, b, c]) d := by
  unfold andE
  by_cases h1 : a = 0 <;> by_cases h2 : b = 0 <;> by_cases h3 : c = 0 <;> by_cases h4 : d = 0 <;> simp_all [firstE]
theorem length_first {n : Nat} {k a b : Int} (ha : a = if decide ((n : Int) < 2) then 16 else 0) (hb : b = if decide (k < (n : Int)) then 5 else 0) : firstE [a, b] = lengthE n k := by
  unfold lengthE atMostE
  by_cases h1 : n < 2
  · rw [if_pos h1]
    have : a = 16 := by rw [ha, if_pos (by simpa using (by omega : (n : Int) < 2))]
    rw [this]; rfl
  · rw [if_neg h1]
    have : a = 0 := by rw [ha, if_neg (by simp; omega)]
    rw [this, hb]
    by_cases h2 : k < (n : Int)
    · rw [if_pos (by simpa using h2), if_pos h2]; rfl
    · rw [if_neg (by simpa using h2), if_neg h2]; rfl
set_option maxHeartbeats 4000000 in
set_option maxRecDepth 100000 in
theorem refPath_full (A : Option Addr) (n c : Nat) (l : List Bell.Pt) (w : World) (hl : PtsAt w A n l) (hn : n ≤ 140737488351232) :
    Calls Tryz.prog 50 #[.slice A n c] w fun e w' => e = .returned (.int .i64 (pathE l)) ∧ Below w.heap.size w w' := by
  have HL := Lib.hid hl
  obtain ⟨V, hV⟩ : ∃ V, V = pathE l := ⟨_, rfl⟩
  have HV : Hid (V = andE (lengthE n 16) (firstR (ptAtE l) n)) := by show _ = _; rw [hV, ← hl.1]; rfl
  rw [← hV]
  clear hl hV
  go_enter Tryz.func50, Tryz.ntmps50
  go_wp2_with fail
  refine (refWhen_let _ _ _).mono ?_
  rintro e w1 ⟨a, rfl, ha, rfl⟩
  go_wp2_with fail
  refine (refWhen_let _ _ _).mono ?_
  rintro e w2 ⟨b, rfl, hb, rfl⟩
  go_wp2_with fail
  refine (refFirst2 _ _ a b _ (by go_simp) (by go_simp)).mono ?_
  have hab := length_first ha.out hb.out
  obtain ⟨E, hE⟩ : ∃ E, E = lengthE n 16 := ⟨_, rfl⟩
  rw [hab, ← hE]
  rw [← hE] at HV
  have KE := Lib.hid hE
  clear hE hab ha hb
  rintro e w4 ⟨rfl, rfl⟩
  obtain ⟨w5, hw5⟩ : ∃ W, W = w2.alloc (.cells #[.int .i64 a, .int .i64 b] 3) := ⟨_, rfl⟩
  rw [← hw5]
  have hbl : Below w2.heap.size w2 w5 := by rw [hw5]; exact (Below.refl _ _).alloc (Nat.le_refl _) _
  have H5 := Lib.hid (HL.out.keep hbl)
  have HB := Lib.hid hbl
  clear hw5 hbl HL
  by_cases he : E = 0
  case neg =>
    have h1 : (E != 0) = true := by simp [he]
    have hr : Hid (V = E) := by show _ = _; rw [HV.out, andE_n he]
    go_wp2
    go_ret
    exact ⟨ret_int hr.out.symm, HB.out⟩
  have h1 : (E != 0) = false := by simp [he]
  have n1 : 2 ≤ n := by have := lengthE_zero2 (k := 16) (KE.out.symm.trans he); omega
  replace HV : Hid (V = firstR (ptAtE l) n) := by show _ = _; rw [HV.out, andE_0 he]
  obtain ⟨bb, off, rfl, hc⟩ := H5.out.2 (by omega)
  clear hc KE he
  go_wp2
  go_loopw [2, 4, 5] (fun _ k _ wr => ∃ j : Nat, j ≤ n ∧ k = .int .i64 j ∧ Hid (∀ i, i < j → ptAtE l i = 0) ∧ Hid (Below w5.heap.size w5 wr)) (fun _ k _ _ => n - (intOf k).toNat)
  case atStart => exact ⟨0, Nat.zero_le _, rfl, (fun i hi => by omega), Below.refl _ _⟩
  case round =>
    clear h1
    obtain ⟨j, hj, rfl, hz, hb⟩ := hrel
    by_cases hlt : j < n
    · obtain ⟨b', o', e', hcc⟩ := (H5.out.keep hb.out).2 (by omega)
      cases e'
      obtain ⟨h0, h1⟩ := hcc j hlt
      have hj0 := hcc 0 (by omega)
      have HJ : Hid (ptAtE l j = andE (firstE [withinE (Bell.ptAt l j).x (-100000) 100000, withinE (Bell.ptAt l j).y (-100000) 100000]) (if 0 < j ∧ (Bell.ptAt l j).x = (Bell.ptAt l (j - 1)).x ∧ (Bell.ptAt l j).y = (Bell.ptAt l (j - 1)).y then 9 else 0)) := rfl
      have HQQ := Lib.hid (fun p (hp : p < n) => hcc p hp)
      obtain ⟨x, hx⟩ : ∃ x, x = (Bell.ptAt l j).x := ⟨_, rfl⟩
      obtain ⟨y, hy⟩ : ∃ y, y = (Bell.ptAt l j).y := ⟨_, rfl⟩
      rw [← hx] at h0 HJ
      rw [← hy] at h1 HJ
      have a0 := fun d os => cell_regrown h0 d os
      have a1 := fun d os => cell_regrown h1 d os
      have cx := fun d os => Calls.regrown_of (Calls.grow_same (refCheckRange_st x (-100000) 100000 (grow (redrawn wr d) os)))
      have cy := fun d os => Calls.regrown_of (Calls.grow_same (refCheckRange_st y (-100000) 100000 (grow (redrawn wr d) os)))
      clear hx hy h0 h1 hj0 hcc
      have pl : (j : Int) < (n : Int) := by omega
      rcases Nat.eq_zero_or_pos j with rfl | hp
      · simp only [Nat.zero_mul, Nat.add_zero] at a0 a1
        obtain ⟨f, hf⟩ : ∃ f : Int, f = if false = true then 9 else 0 := ⟨_, rfl⟩
        have HFf := Lib.hid hf
        have cw := fun d os => Calls.regrown_of (Calls.grow_same (refWhen_as (grow (redrawn wr d) os) hf))
        have HEQ : Hid (firstE [withinE x (-100000) 100000, withinE y (-100000) 100000, f] = ptAtE l 0) := by show _ = _; rw [firstE3_and, HJ.out, HFf.out]; simp
        clear hf HJ HFf HQQ
        go_wp2
        refine wp_region_below_tail 28 (by kernel_rfl) (by kernel_rfl) ?_
        simp only [List.take_succ_cons, List.take_zero, List.drop_succ_cons, List.drop_zero]
        iterate 5 (go_big_quiet_step (fail))
        go_big_quiet_step (exact cx _ _)
        clear cx
        iterate 5 (go_big_quiet_step (fail))
        go_big_quiet_step (exact cy _ _)
        clear cy
        iterate 15 (go_big_quiet_step (fail))
        go_big_quiet_step (exact cw _ _)
        clear cw
        refine wpQuiet_nil ?_
        intro w6 hw'
        obtain ⟨⟨dq, osq⟩, hw''⟩ := hw'
        have HB6 := Lib.hid (hb.out.trans ((below_regrown wr dq osq).mono hb.out.size))
        rw [← hw''] at HB6
        clear hw''
        go_wp2_with fail
        refine (refFirst3 _ _ (withinE x (-100000) 100000) (withinE y (-100000) 100000) f _ (by go_simp) (by go_simp) (by go_simp)).mono ?_
        rw [HEQ.out]
        obtain ⟨F, hF⟩ : ∃ F, F = ptAtE l 0 := ⟨_, rfl⟩
        rw [← hF]
        have HF := Lib.hid hF
        clear hF
        rintro e w7 ⟨rfl, rfl⟩
        obtain ⟨w8, hw8⟩ : ∃ W, W = w6.alloc (.cells #[.int .i64 (withinE x (-100000) 100000), .int .i64 (withinE y (-100000) 100000), .int .i64 f] 3) := ⟨_, rfl⟩
        rw [← hw8]
        have HB8 : Hid (Below w5.heap.size w5 w8) := by show Below _ _ _; rw [hw8]; exact HB6.out.alloc HB6.out.size _
        clear hw8 HB6
        by_cases hf : F = 0
        · have h1 : (F != 0) = false := by simp [hf]
          have HF0 := Lib.hid hf
          clear hf
          go_wp2
          go_roundw
          case rel =>
            refine ⟨0 + 1, by omega, by go_num, fun i hi => ?_, HB8⟩
            by_cases hij : i < 0
            · exact hz.out i hij
            · obtain rfl : i = 0 := by omega
              exact HF.out.symm.trans HF0.out
          case measure => simp [intOf]; omega
        · have h1 : (F != 0) = true := by simp [hf]
          have hr : Hid (V = F) := by show _ = _; rw [HV.out, HF.out]; exact firstR_hit hlt hz.out (by rw [← HF.out]; exact hf)
          go_wp2
          go_ret
          exact ⟨ret_int hr.out.symm, HB.out.trans (HB8.out.mono HB.out.size)⟩
      · have g0 : decide (0 < j) = true := decide_eq_true hp
        have g1 : decide ((0 : Int) < (j : Int)) = true := decide_eq_true (by omega)
        have g2 : decide ((j : Int) = 0) = false := decide_eq_false (by omega)
        have g3 : ((j : Int) == 0) = false := by simp; omega
        obtain ⟨p, hpj⟩ : ∃ p, p + 1 = j := ⟨j - 1, by omega⟩
        obtain ⟨k0, k1⟩ := HQQ.out p (by omega)
        have hp1 : j - 1 = p := by omega
        rw [hp1] at HJ
        obtain ⟨u, hu⟩ : ∃ u, u = (Bell.ptAt l p).x := ⟨_, rfl⟩
        obtain ⟨v, hv⟩ : ∃ v, v = (Bell.ptAt l p).y := ⟨_, rfl⟩
        rw [← hu] at k0 HJ
        rw [← hv] at k1 HJ
        have ap := fun d os => cell_regrown k0 d os
        have aq := fun d os => cell_regrown k1 d os
        have hmx : ∀ ts t W, (Builtin.max_ ts t #[.int .i64 0, .int .i64 ((j : Int) - 1)]).run Tryz.prog W = .ok (.int .i64 (p : Int)) W := fun ts t W => by
          rw [run_max2']; congr 2; omega
        have pl2 : (p : Int) < (n : Int) := by omega
        have wj : IntKind.i64.wrap ((j : Int) - 1) = (j : Int) - 1 := IntWalk.i64_in _ (by omega)
        obtain ⟨B, hB⟩ : ∃ B, (x == u && y == v) = B := ⟨_, rfl⟩
        have eqp : ∀ W, (Op.equalIn 10000 30 (.agg #[.int .i64 x, .int .i64 y]) (.agg #[.int .i64 u, .int .i64 v])).run Tryz.prog W = .ok B W := fun W => by rw [eq_pt, hB]
        obtain ⟨f, hf⟩ : ∃ f : Int, f = if B then 9 else 0 := ⟨_, rfl⟩
        have cw := fun d os => Calls.regrown_of (Calls.grow_same (refWhen_as (grow (redrawn wr d) os) hf))
        have HEQ : Hid (firstE [withinE x (-100000) 100000, withinE y (-100000) 100000, f] = ptAtE l j) := by
          show _ = _
          rw [firstE3_and, HJ.out, hf, ← hB]
          congr 1
          by_cases h1 : x = u <;> by_cases h2 : y = v <;> simp [h1, h2, hp]
        clear hu hv hB hf HJ HQQ k0 k1 hpj hp1
        go_wp2
        refine wp_region_below_tail 28 (by kernel_rfl) (by kernel_rfl) ?_
        simp only [List.take_succ_cons, List.take_zero, List.drop_succ_cons, List.drop_zero]
        iterate 5 (go_big_quiet_step (fail))
        go_big_quiet_step (exact cx _ _)
        clear cx
        iterate 5 (go_big_quiet_step (fail))
        go_big_quiet_step (exact cy _ _)
        clear cy
        iterate 15 (go_big_quiet_step (fail))
        go_big_quiet_step (exact cw _ _)
        clear cw
        refine wpQuiet_nil ?_
        intro w6 hw'
        obtain ⟨⟨dq, osq⟩, hw''⟩ := hw'
        have HB6 := Lib.hid (hb.out.trans ((below_regrown wr dq osq).mono hb.out.size))
        rw [← hw''] at HB6
        clear hw''
        go_wp2_with fail
        refine (refFirst3 _ _ (withinE x (-100000) 100000) (withinE y (-100000) 100000) f _ (by go_simp) (by go_simp) (by go_simp)).mono ?_
        rw [HEQ.out]
        obtain ⟨F, hF⟩ : ∃ F, F = ptAtE l j := ⟨_, rfl⟩
        rw [← hF]
        have HF := Lib.hid hF
        clear hF
        rintro e w7 ⟨rfl, rfl⟩
        obtain ⟨w8, hw8⟩ : ∃ W, W = w6.alloc (.cells #[.int .i64 (withinE x (-100000) 100000), .int .i64 (withinE y (-100000) 100000), .int .i64 f] 3) := ⟨_, rfl⟩
        rw [← hw8]
        have HB8 : Hid (Below w5.heap.size w5 w8) := by show Below _ _ _; rw [hw8]; exact HB6.out.alloc HB6.out.size _
        clear hw8 HB6
        by_cases hf : F = 0
        · have h1 : (F != 0) = false := by simp [hf]
          have HF0 := Lib.hid hf
          clear hf
          go_wp2
          go_roundw
          case rel =>
            refine ⟨j + 1, by omega, by go_num, fun i hi => ?_, HB8⟩
            by_cases hij : i < j
            · exact hz.out i hij
            · obtain rfl : i = j := by omega
              exact HF.out.symm.trans HF0.out
          case measure => simp [intOf]; omega
        · have h1 : (F != 0) = true := by simp [hf]
          have hr : Hid (V = F) := by show _ = _; rw [HV.out, HF.out]; exact firstR_hit hlt hz.out (by rw [← HF.out]; exact hf)
          go_wp2
          go_ret
          exact ⟨ret_int hr.out.symm, HB.out.trans (HB8.out.mono HB.out.size)⟩
    · obtain rfl : j = n := by omega
      have hr : Hid (V = 0) := by show _ = _; rw [HV.out]; exact firstR_miss hz.out
      go_wp2
      go_ret
      exact ⟨ret_int hr.out.symm, HB.out.trans (hb.out.mono HB.out.size)⟩
set_option maxHeartbeats 4000000 in
set_option maxRecDepth 100000 in
theorem refProc_full (A : Option Addr) (n c : Nat) (l : List Bell.Sp) (w : World) (hl : SpsAt w A n l) (hn : n ≤ 140737488351232) :
    Calls Tryz.prog 51 #[.slice A n c] w fun e w' => e = .returned (.int .i64 (procE l)) ∧ Below w.heap.size w w' := by
  have HL := Lib.hid hl
  obtain ⟨V, hV⟩ : ∃ V, V = procE l := ⟨_, rfl⟩
  have HV : Hid (V = andE (lengthE n 8) (firstR (spAtE l) n)) := by show _ = _; rw [hV, ← hl.1]; rfl
  rw [← hV]
  clear hl hV
  go_enter Tryz.func51, Tryz.ntmps51
  go_wp2_with fail
  refine (refWhen_let _ _ _).mono ?_
  rintro e w1 ⟨a, rfl, ha, rfl⟩
  go_wp2_with fail
  refine (refWhen_let _ _ _).mono ?_
  rintro e w2 ⟨b, rfl, hb, rfl⟩
  go_wp2_with fail
  refine (refFirst2 _ _ a b _ (by go_simp) (by go_simp)).mono ?_
  have hab := length_first ha.out hb.out
  obtain ⟨E, hE⟩ : ∃ E, E = lengthE n 8 := ⟨_, rfl⟩
  rw [hab, ← hE]
  rw [← hE] at HV
  have KE := Lib.hid hE
  clear hE hab ha hb
  rintro e w4 ⟨rfl, rfl⟩
  obtain ⟨w5, hw5⟩ : ∃ W, W = w2.alloc (.cells #[.int .i64 a, .int .i64 b] 3) := ⟨_, rfl⟩
  rw [← hw5]
  have hbl : Below w2.heap.size w2 w5 := by rw [hw5]; exact (Below.refl _ _).alloc (Nat.le_refl _) _
  have H5 := Lib.hid (HL.out.keep hbl)
  have HB := Lib.hid hbl
  clear hw5 hbl HL
  by_cases he : E = 0
  case neg =>
    have h1 : (E != 0) = true := by simp [he]
    have hr : Hid (V = E) := by show _ = _; rw [HV.out, andE_n he]
    go_wp2
    go_ret
    exact ⟨ret_int hr.out.symm, HB.out⟩
  have h1 : (E != 0) = false := by simp [he]
  have n1 : 2 ≤ n := by have := lengthE_zero2 (k := 8) (KE.out.symm.trans he); omega
  replace HV : Hid (V = firstR (spAtE l) n) := by show _ = _; rw [HV.out, andE_0 he]
  obtain ⟨bb, off, rfl, hc⟩ := H5.out.2 (by omega)
  clear hc KE he
  go_wp2
  go_loopw [2, 4, 5] (fun _ k _ wr => ∃ j : Nat, j ≤ n ∧ k = .int .i64 j ∧ Hid (∀ i, i < j → spAtE l i = 0) ∧ Hid (Below w5.heap.size w5 wr)) (fun _ k _ _ => n - (intOf k).toNat)
  case atStart => exact ⟨0, Nat.zero_le _, rfl, (fun i hi => by omega), Below.refl _ _⟩
  case round =>
    clear h1
    obtain ⟨j, hj, rfl, hz, hb⟩ := hrel
    by_cases hlt : j < n
    · obtain ⟨b', o', e', hcc⟩ := (H5.out.keep hb.out).2 (by omega)
      cases e'
      obtain ⟨h0, h1, h2⟩ := hcc j hlt
      have HJ : Hid (spAtE l j = andE (firstE [withinE (Bell.spAt l j).d 0 400000, withinE (Bell.spAt l j).h 0 20000, withinE (Bell.spAt l j).p 1 100]) (if (j = 0 ∧ (Bell.spAt l j).d ≠ 0) ∨ (0 < j ∧ (Bell.spAt l j).d ≤ (Bell.spAt l (j - 1)).d) then 11 else 0)) := rfl
      have HQQ := Lib.hid (fun p (hp : p < n) => hcc p hp)
      obtain ⟨x, hx⟩ : ∃ x, x = (Bell.spAt l j).d := ⟨_, rfl⟩
      obtain ⟨y, hy⟩ : ∃ y, y = (Bell.spAt l j).h := ⟨_, rfl⟩
      obtain ⟨z, hz0⟩ : ∃ z, z = (Bell.spAt l j).p := ⟨_, rfl⟩
      rw [← hx] at h0 HJ
      rw [← hy] at h1 HJ
      rw [← hz0] at h2 HJ
      have a0 := fun d os => cell_regrown h0 d os
      have a1 := fun d os => cell_regrown h1 d os
      have a2 := fun d os => cell_regrown h2 d os
      have cx := fun d os => Calls.regrown_of (Calls.grow_same (refCheckRange_st x 0 400000 (grow (redrawn wr d) os)))
      have cy := fun d os => Calls.regrown_of (Calls.grow_same (refCheckRange_st y 0 20000 (grow (redrawn wr d) os)))
      have cz := fun d os => Calls.regrown_of (Calls.grow_same (refPower_st z (grow (redrawn wr d) os)))
      clear hx hy hz0 h0 h1 h2 hcc
      have pl : (j : Int) < (n : Int) := by omega
      rcases Nat.eq_zero_or_pos j with rfl | hp
      · simp only [Nat.zero_mul, Nat.add_zero] at a0 a1 a2
        by_cases hd0 : x = 0
        · skip
          have d1 : decide (x = 0) = true := decide_eq_true hd0
          have d2 : (x != 0) = false := by simp [hd0]
          obtain ⟨f, hf⟩ : ∃ f : Int, f = if false = true then 11 else 0 := ⟨_, rfl⟩
          have HFf := Lib.hid hf
          have cw := fun d os => Calls.regrown_of (Calls.grow_same (refWhen_as (grow (redrawn wr d) os) hf))
          have HEQ : Hid (firstE [withinE x 0 400000, withinE y 0 20000, withinE z 1 100, f] = spAtE l 0) := by show _ = _; rw [firstE4_and, HJ.out, HFf.out]; simp [hd0]
          clear hf HJ HFf HQQ hd0
          go_wp2
          refine wp_region_below_tail 48 (by kernel_rfl) (by kernel_rfl) ?_
          simp only [List.take_succ_cons, List.take_zero, List.drop_succ_cons, List.drop_zero]
          iterate 5 (go_big_quiet_step (fail))
          go_big_quiet_step (exact cx _ _)
          clear cx
          iterate 5 (go_big_quiet_step (fail))
          go_big_quiet_step (exact cy _ _)
          clear cy
          iterate 5 (go_big_quiet_step (fail))
          go_big_quiet_step (exact cz _ _)
          clear cz
          iterate 29 (go_big_quiet_step (fail))
          go_big_quiet_step (exact cw _ _)
          clear cw
          refine wpQuiet_nil ?_
          intro w6 hw'
          obtain ⟨⟨dq, osq⟩, hw''⟩ := hw'
          have HB6 := Lib.hid (hb.out.trans ((below_regrown wr dq osq).mono hb.out.size))
          rw [← hw''] at HB6
          clear hw''
          go_wp2_with fail
          refine (refFirst4 _ _ (withinE x 0 400000) (withinE y 0 20000) (withinE z 1 100) f _ (by go_simp) (by go_simp) (by go_simp) (by go_simp)).mono ?_
          rw [HEQ.out]
          obtain ⟨F, hF⟩ : ∃ F, F = spAtE l 0 := ⟨_, rfl⟩
          rw [← hF]
          have HF := Lib.hid hF
          clear hF
          rintro e w7 ⟨rfl, rfl⟩
          obtain ⟨w8, hw8⟩ : ∃ W, W = w6.alloc (.cells #[.int .i64 (withinE x 0 400000), .int .i64 (withinE y 0 20000), .int .i64 (withinE z 1 100), .int .i64 f] 3) := ⟨_, rfl⟩
          rw [← hw8]
          have HB8 : Hid (Below w5.heap.size w5 w8) := by show Below _ _ _; rw [hw8]; exact HB6.out.alloc HB6.out.size _
          clear hw8 HB6
          by_cases hf : F = 0
          · have h1 : (F != 0) = false := by simp [hf]
            have HF0 := Lib.hid hf
            clear hf
            go_wp2
            go_roundw
            case rel =>
              refine ⟨0 + 1, by omega, by go_num, fun i hi => ?_, HB8⟩
              by_cases hij : i < 0
              · exact hz.out i hij
              · obtain rfl : i = 0 := by omega
                exact HF.out.symm.trans HF0.out
            case measure => simp [intOf]; omega
          · have h1 : (F != 0) = true := by simp [hf]
            have hr : Hid (V = F) := by show _ = _; rw [HV.out, HF.out]; exact firstR_hit hlt hz.out (by rw [← HF.out]; exact hf)
            go_wp2
            go_ret
            exact ⟨ret_int hr.out.symm, HB.out.trans (HB8.out.mono HB.out.size)⟩
        · skip
          have d1 : decide (x = 0) = false := decide_eq_false hd0
          have d2 : (x != 0) = true := by simp [hd0]
          obtain ⟨f, hf⟩ : ∃ f : Int, f = if true = true then 11 else 0 := ⟨_, rfl⟩
          have HFf := Lib.hid hf
          have cw := fun d os => Calls.regrown_of (Calls.grow_same (refWhen_as (grow (redrawn wr d) os) hf))
          have HEQ : Hid (firstE [withinE x 0 400000, withinE y 0 20000, withinE z 1 100, f] = spAtE l 0) := by show _ = _; rw [firstE4_and, HJ.out, HFf.out]; simp [hd0]
          clear hf HJ HFf HQQ hd0
          go_wp2
          refine wp_region_below_tail 48 (by kernel_rfl) (by kernel_rfl) ?_
          simp only [List.take_succ_cons, List.take_zero, List.drop_succ_cons, List.drop_zero]
          iterate 5 (go_big_quiet_step (fail))
          go_big_quiet_step (exact cx _ _)
          clear cx
          iterate 5 (go_big_quiet_step (fail))
          go_big_quiet_step (exact cy _ _)
          clear cy
          iterate 5 (go_big_quiet_step (fail))
          go_big_quiet_step (exact cz _ _)
          clear cz
          iterate 29 (go_big_quiet_step (fail))
          go_big_quiet_step (exact cw _ _)
          clear cw
          refine wpQuiet_nil ?_
          intro w6 hw'
          obtain ⟨⟨dq, osq⟩, hw''⟩ := hw'
          have HB6 := Lib.hid (hb.out.trans ((below_regrown wr dq osq).mono hb.out.size))
          rw [← hw''] at HB6
          clear hw''
          go_wp2_with fail
          refine (refFirst4 _ _ (withinE x 0 400000) (withinE y 0 20000) (withinE z 1 100) f _ (by go_simp) (by go_simp) (by go_simp) (by go_simp)).mono ?_
          rw [HEQ.out]
          obtain ⟨F, hF⟩ : ∃ F, F = spAtE l 0 := ⟨_, rfl⟩
          rw [← hF]
          have HF := Lib.hid hF
          clear hF
          rintro e w7 ⟨rfl, rfl⟩
          obtain ⟨w8, hw8⟩ : ∃ W, W = w6.alloc (.cells #[.int .i64 (withinE x 0 400000), .int .i64 (withinE y 0 20000), .int .i64 (withinE z 1 100), .int .i64 f] 3) := ⟨_, rfl⟩
          rw [← hw8]
          have HB8 : Hid (Below w5.heap.size w5 w8) := by show Below _ _ _; rw [hw8]; exact HB6.out.alloc HB6.out.size _
          clear hw8 HB6
          by_cases hf : F = 0
          · have h1 : (F != 0) = false := by simp [hf]
            have HF0 := Lib.hid hf
            clear hf
            go_wp2
            go_roundw
            case rel =>
              refine ⟨0 + 1, by omega, by go_num, fun i hi => ?_, HB8⟩
              by_cases hij : i < 0
              · exact hz.out i hij
              · obtain rfl : i = 0 := by omega
                exact HF.out.symm.trans HF0.out
            case measure => simp [intOf]; omega
          · have h1 : (F != 0) = true := by simp [hf]
            have hr : Hid (V = F) := by show _ = _; rw [HV.out, HF.out]; exact firstR_hit hlt hz.out (by rw [← HF.out]; exact hf)
            go_wp2
            go_ret
            exact ⟨ret_int hr.out.symm, HB.out.trans (HB8.out.mono HB.out.size)⟩
      · have g0 : decide (0 < j) = true := decide_eq_true hp
        have g1 : decide ((0 : Int) < (j : Int)) = true := decide_eq_true (by omega)
        have g2 : decide ((j : Int) = 0) = false := decide_eq_false (by omega)
        have g3 : ((j : Int) == 0) = false := by simp; omega
        obtain ⟨p, hpj⟩ : ∃ p, p + 1 = j := ⟨j - 1, by omega⟩
        obtain ⟨k0, _, _⟩ := HQQ.out p (by omega)
        have hp1 : j - 1 = p := by omega
        rw [hp1] at HJ
        obtain ⟨u, hu⟩ : ∃ u, u = (Bell.spAt l p).d := ⟨_, rfl⟩
        rw [← hu] at k0 HJ
        have ap := fun d os => cell_regrown k0 d os
        have hmx : ∀ ts t W, (Builtin.max_ ts t #[.int .i64 0, .int .i64 ((j : Int) - 1)]).run Tryz.prog W = .ok (.int .i64 (p : Int)) W := fun ts t W => by
          rw [run_max2']; congr 2; omega
        have pl2 : (p : Int) < (n : Int) := by omega
        have wj : IntKind.i64.wrap ((j : Int) - 1) = (j : Int) - 1 := IntWalk.i64_in _ (by omega)
        obtain ⟨B, hB⟩ : ∃ B, decide (x ≤ u) = B := ⟨_, rfl⟩
        obtain ⟨f, hf⟩ : ∃ f : Int, f = if B then 11 else 0 := ⟨_, rfl⟩
        have cw := fun d os => Calls.regrown_of (Calls.grow_same (refWhen_as (grow (redrawn wr d) os) hf))
        have HEQ : Hid (firstE [withinE x 0 400000, withinE y 0 20000, withinE z 1 100, f] = spAtE l j) := by
          show _ = _
          rw [firstE4_and, HJ.out, hf, ← hB]
          congr 1
          by_cases h1 : x ≤ u <;> simp [h1, hp, (show ¬ j = 0 by omega)]
        clear hu hf HJ HQQ k0 hpj hp1
        go_wp2
        refine wp_region_below_tail 48 (by kernel_rfl) (by kernel_rfl) ?_
        simp only [List.take_succ_cons, List.take_zero, List.drop_succ_cons, List.drop_zero]
        iterate 5 (go_big_quiet_step (fail))
        go_big_quiet_step (exact cx _ _)
        clear cx
        iterate 5 (go_big_quiet_step (fail))
        go_big_quiet_step (exact cy _ _)
        clear cy
        iterate 5 (go_big_quiet_step (fail))
        go_big_quiet_step (exact cz _ _)
        clear cz
        iterate 29 (go_big_quiet_step (fail))
        go_big_quiet_step (exact cw _ _)
        clear cw
        refine wpQuiet_nil ?_
        intro w6 hw'
        obtain ⟨⟨dq, osq⟩, hw''⟩ := hw'
        have HB6 := Lib.hid (hb.out.trans ((below_regrown wr dq osq).mono hb.out.size))
        rw [← hw''] at HB6
        clear hw''
        go_wp2_with fail
        refine (refFirst4 _ _ (withinE x 0 400000) (withinE y 0 20000) (withinE z 1 100) f _ (by go_simp) (by go_simp) (by go_simp) (by go_simp)).mono ?_
        rw [HEQ.out]
        obtain ⟨F, hF⟩ : ∃ F, F = spAtE l j := ⟨_, rfl⟩
        rw [← hF]
        have HF := Lib.hid hF
        clear hF
        rintro e w7 ⟨rfl, rfl⟩
        obtain ⟨w8, hw8⟩ : ∃ W, W = w6.alloc (.cells #[.int .i64 (withinE x 0 400000), .int .i64 (withinE y 0 20000), .int .i64 (withinE z 1 100), .int .i64 f] 3) := ⟨_, rfl⟩
        rw [← hw8]
        have HB8 : Hid (Below w5.heap.size w5 w8) := by show Below _ _ _; rw [hw8]; exact HB6.out.alloc HB6.out.size _
        clear hw8 HB6
        by_cases hf : F = 0
        · have h1 : (F != 0) = false := by simp [hf]
          have HF0 := Lib.hid hf
          clear hf
          go_wp2
          go_roundw
          case rel =>
            refine ⟨j + 1, by omega, by go_num, fun i hi => ?_, HB8⟩
            by_cases hij : i < j
            · exact hz.out i hij
            · obtain rfl : i = j := by omega
              exact HF.out.symm.trans HF0.out
          case measure => simp [intOf]; omega
        · have h1 : (F != 0) = true := by simp [hf]
          have hr : Hid (V = F) := by show _ = _; rw [HV.out, HF.out]; exact firstR_hit hlt hz.out (by rw [← HF.out]; exact hf)
          go_wp2
          go_ret
          exact ⟨ret_int hr.out.symm, HB.out.trans (HB8.out.mono HB.out.size)⟩
    · obtain rfl : j = n := by omega
      have hr : Hid (V = 0) := by show _ = _; rw [HV.out]; exact firstR_miss hz.out
      go_wp2
      go_ret
      exact ⟨ret_int hr.out.symm, HB.out.trans (hb.out.mono HB.out.size)⟩
end Go.Proofs.YtmafmebcgmegeaaGreatDoor
