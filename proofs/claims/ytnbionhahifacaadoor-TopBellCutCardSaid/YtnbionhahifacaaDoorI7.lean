/- Points and states that are examined; a track without a fault passes; At. -/
import Derived.Test.YtnbionhahifacaaDoorI6
namespace Go.Proofs.YtnbionhahifacaaDoor
open Go.RowKit Go.Sort

set_option maxHeartbeats 2000000 in
set_option maxRecDepth 100000 in
theorem fixCheck_any (P : Bell.Fx) (w : World) :
    Calls Tryd.prog 60 #[.agg (fxV P)] w fun e w' => e = .returned (.int .i64 (fixE P.t P.x P.y P.z P.p)) ∧ Below w.heap.size w w' := by
  unfold fxV
  go_enter Tryd.func60, Tryd.ntmps60
  go_wp2_with fail
  obtain ⟨w0, hw0⟩ : ∃ X, X = w.alloc (.cells #[.int .i64 P.t, .int .i64 P.x, .int .i64 P.y, .int .i64 P.z, .int .i64 P.p] 68) := ⟨_, rfl⟩
  rw [← hw0]
  have B0 : Blk w0 w.heap.size 68 #[.int .i64 P.t, .int .i64 P.x, .int .i64 P.y, .int .i64 P.z, .int .i64 P.p] := by rw [hw0]; exact Blk.new w _ _
  have HB : Hid (Below w.heap.size w w0) := by show Below _ _ _; rw [hw0]; exact (Below.refl _ w).alloc (Nat.le_refl _) _
  clear hw0
  have a0 := fun d os => cell_regrown (B0.cell 0) d os
  have a1 := fun d os => cell_regrown (B0.cell 1) d os
  have a2 := fun d os => cell_regrown (B0.cell 2) d os
  have a3 := fun d os => cell_regrown (B0.cell 3) d os
  have a4 := fun d os => cell_regrown (B0.cell 4) d os
  have ct := fun d os => Calls.regrown_of (Calls.grow_same (srcTick_st P.t (grow (redrawn w0 d) os)))
  have cp := fun d os => Calls.regrown_of (Calls.grow_same (srcPower_st P.p (grow (redrawn w0 d) os)))
  have cl := fun d os => Calls.regrown_of (checkPlace_any P.x P.y P.z (grow (redrawn w0 d) os))
  clear B0
  refine wp_region_below_tail 9 (by kernel_rfl) (by kernel_rfl) ?_
  simp only [List.take_succ_cons, List.take_zero, List.drop_succ_cons, List.drop_zero]
  iterate 2 (quiet_step (fail))
  quiet_step (exact ct _ _)
  iterate 2 (quiet_step (fail))
  quiet_step (exact cl _ _)
  iterate 2 (quiet_step (fail))
  quiet_step (exact cp _ _)
  refine wpQuiet_nil ?_
  intro w1 hw'
  obtain ⟨⟨dq, osq⟩, hw''⟩ := hw'
  have HB1 := Lib.hid (HB.out.trans ((below_regrown w0 dq osq).mono HB.out.size))
  rw [← hw''] at HB1
  clear hw'' a0 a1 a2 a3 a4 ct cp cl
  go_wp2_with fail
  refine (first3 _ _ (withinE P.t 0 100000000) (placeE P.x P.y P.z) (withinE P.p 1 100) _ (by go_simp) (by go_simp) (by go_simp)).mono ?_
  rintro e w2 ⟨rfl, rfl⟩
  go_wp2
  go_ret
  exact ⟨rfl, HB1.out.alloc HB1.out.size _⟩

set_option maxHeartbeats 2000000 in
set_option maxRecDepth 100000 in
theorem stateCheck_any (s : Bell.St) (w : World) :
    Calls Tryd.prog 50 #[.agg (stV s)] w fun e w' => e = .returned (.int .i64 (firstE [placeE s.x s.y s.z, dirE s.hx s.hy, withinE s.p 1 100])) ∧ Below w.heap.size w w' := by
  unfold stV
  go_enter Tryd.func50, Tryd.ntmps50
  go_wp2_with fail
  obtain ⟨w0, hw0⟩ : ∃ X, X = w.alloc (.cells #[.int .i64 s.x, .int .i64 s.y, .int .i64 s.z, .int .i64 s.hx, .int .i64 s.hy, .int .i64 s.p] 72) := ⟨_, rfl⟩
  rw [← hw0]
  have B0 : Blk w0 w.heap.size 72 #[.int .i64 s.x, .int .i64 s.y, .int .i64 s.z, .int .i64 s.hx, .int .i64 s.hy, .int .i64 s.p] := by rw [hw0]; exact Blk.new w _ _
  have HB : Hid (Below w.heap.size w w0) := by show Below _ _ _; rw [hw0]; exact (Below.refl _ w).alloc (Nat.le_refl _) _
  clear hw0
  have a0 := fun d os => cell_regrown (B0.cell 0) d os
  have a1 := fun d os => cell_regrown (B0.cell 1) d os
  have a2 := fun d os => cell_regrown (B0.cell 2) d os
  have a3 := fun d os => cell_regrown (B0.cell 3) d os
  have a4 := fun d os => cell_regrown (B0.cell 4) d os
  have a5 := fun d os => cell_regrown (B0.cell 5) d os
  have ct := fun d os => Calls.regrown_of (checkDirection_any s.hx s.hy (grow (redrawn w0 d) os))
  have cp := fun d os => Calls.regrown_of (Calls.grow_same (srcPower_st s.p (grow (redrawn w0 d) os)))
  have cl := fun d os => Calls.regrown_of (checkPlace_any s.x s.y s.z (grow (redrawn w0 d) os))
  clear B0
  refine wp_region_below_tail 9 (by kernel_rfl) (by kernel_rfl) ?_
  simp only [List.take_succ_cons, List.take_zero, List.drop_succ_cons, List.drop_zero]
  iterate 2 (quiet_step (fail))
  quiet_step (exact cl _ _)
  iterate 2 (quiet_step (fail))
  quiet_step (exact ct _ _)
  iterate 2 (quiet_step (fail))
  quiet_step (exact cp _ _)
  refine wpQuiet_nil ?_
  intro w1 hw'
  obtain ⟨⟨dq, osq⟩, hw''⟩ := hw'
  have HB1 := Lib.hid (HB.out.trans ((below_regrown w0 dq osq).mono HB.out.size))
  rw [← hw''] at HB1
  clear hw'' a0 a1 a2 a3 a4 a5 ct cp cl
  go_wp2_with fail
  refine (first3 _ _ (placeE s.x s.y s.z) (dirE s.hx s.hy) (withinE s.p 1 100) _ (by go_simp) (by go_simp) (by go_simp)).mono ?_
  rintro e w2 ⟨rfl, rfl⟩
  go_wp2
  go_ret
  exact ⟨rfl, HB1.out.alloc HB1.out.size _⟩

theorem withinE_in {n lo hi : Int} (h1 : lo ≤ n) (h2 : n ≤ hi) : withinE n lo hi = 0 := by unfold withinE; rw [if_neg (by omega)]
theorem fixE_good {P : Bell.Fx} (h : Bell.GoodFx P) : fixE P.t P.x P.y P.z P.p = 0 := by
  simp [fixE, placeE, firstE, withinE_in h.t0 h.t1, withinE_in h.x0 h.x1, withinE_in h.y0 h.y1, withinE_in h.z0 h.z1, withinE_in h.p0 h.p1]
theorem stE_good {s : Bell.St} (h : Bell.GoodSt s) : firstE [placeE s.x s.y s.z, dirE s.hx s.hy, withinE s.p 1 100] = 0 := by
  simp [placeE, dirE, firstE, withinE_in h.x0 h.x1, withinE_in h.y0 h.y1, withinE_in h.z0 h.z1, withinE_in h.hx0 h.hx1, withinE_in h.hy0 h.hy1, withinE_in h.p0 h.p1]

theorem atMost_fix (A : Option Addr) (n c : Nat) (limit : Int) (w : World) (h : (n : Int) ≤ limit) :
    Calls Tryd.prog 87 #[.slice A n c, .int .i64 limit] w fun e w' => e = .returned (.int .i64 0) ∧ w' = w := by
  have h2 : ¬ limit < (n : Int) := by omega
  clear h
  go_enter Tryd.func87, Tryd.ntmps87
  go_wp2
  go_ret
  exact ⟨rfl, rfl⟩
theorem checkLength_ok (A : Option Addr) (n c : Nat) (limit : Int) (w : World) (h : (n : Int) ≤ limit) (h2 : 2 ≤ n) :
    Calls Tryd.prog 59 #[.slice A n c, .int .i64 limit] w fun e w' => e = .returned (.int .i64 0) ∧ w' = w := by
  have HH := Lib.hid h
  clear h
  go_enter Tryd.func59, Tryd.ntmps59
  go_wp2_with fail
  refine (atMost_fix A n c limit _ HH.out).mono ?_
  rintro e w' ⟨rfl, rfl⟩
  go_wp2
  go_ret
  exact ⟨rfl, rfl⟩

theorem checkTicks_ok (f t : Int) (w : World) (h0 : 0 ≤ f) (h1 : f ≤ t) (h2 : t ≤ 100000000) :
    Calls Tryd.prog 25 #[.agg #[.int .i64 f, .int .i64 t]] w fun e w' => e = .returned (.int .i64 0) ∧ Below w.heap.size w w' := by
  have q1 : decide (f < 0) = false := decide_eq_false (by omega)
  have q2 : decide (t < f) = false := decide_eq_false (by omega)
  have q3 : decide (100000000 < t) = false := decide_eq_false (by omega)
  clear h0 h1 h2
  go_enter Tryd.func25, Tryd.ntmps25
  go_wp2
  go_ret
  exact ⟨rfl, (Below.refl _ _).alloc (Nat.le_refl _) _⟩

theorem fix_tick (t x y z p : Int) (W : World) : (Instr.field 68 (.agg #[.int .i64 t, .int .i64 x, .int .i64 y, .int .i64 z, .int .i64 p]) 0).run Tryd.prog W = .ok (.int .i64 t) W := by kernel_rfl

set_option maxHeartbeats 2000000 in
set_option maxRecDepth 100000 in
theorem checkLasting_ok (b off n c : Nat) (l : List Bell.Fx) (w : World) (hl : FixesAt w b off n l) (hg : Bell.GoodTr l) :
    Calls Tryd.prog 61 #[.slice (some ⟨b, off, none⟩) n c] w fun e w' => e = .returned (.int .i64 0) ∧ Below w.heap.size w w' := by
  have hn := hl.1
  have g1 := hg.lo
  have g2 := hg.hi
  have g3 := hg.last
  obtain ⟨m, rfl⟩ : ∃ m, n = m + 1 := ⟨n - 1, by omega⟩
  have gm := hg.pts m (by omega)
  have g0 := hg.pts 0 (by omega)
  have cL := fun d os => Calls.regrown_of (last_any b off m c l (grow (redrawn w d) os) (hl.keep (below_regrown w d os)) (by omega))
  have a0 := fun d os => cell_regrown (hl.2 0 (by omega)).1 d os
  rw [hn, Nat.add_sub_cancel] at g3
  obtain ⟨A, hA⟩ : ∃ A, A = Bell.fxAt l 0 := ⟨_, rfl⟩
  obtain ⟨B, hB⟩ : ∃ B, B = Bell.fxAt l m := ⟨_, rfl⟩
  rw [← hA] at g3 g0 a0
  rw [← hB] at g3 gm cL
  have b1 := gm.t0; have b2 := gm.t1; have a1 := g0.t0; have a2 := g0.t1
  have bw := fun d os => below_regrown w d os
  have w1 : IntKind.i64.wrap (B.t - A.t) = B.t - A.t := IntWalk.i64_in _ (by omega)
  have hd : decide (1000 < B.t - A.t) = false := decide_eq_false (by omega)
  simp only [Nat.zero_mul, Nat.add_zero] at a0
  clear hl hg hn g1 g2 g3 gm g0 hA hB b1 b2 a1 a2
  go_enter Tryd.func61, Tryd.ntmps61
  go_upto_region 1 with fail
  simp only [fxV] at cL
  have hfl := fix_tick B.t B.x B.y B.z B.p
  refine wp_region_quiet_below (by kernel_rfl) (by kernel_rfl) ?_
  quiet_step (fail)
  quiet_step (exact cL _ _)
  repeat (quiet_step (fail))
  refine wpQuiet_nil ?_
  intro _ hw'
  obtain ⟨⟨dq, osq⟩, hw''⟩ := hw'
  subst hw''
  have HB := Lib.hid (bw dq osq)
  clear bw a0 cL
  go_wp2
  go_ret
  exact ⟨rfl, HB.out⟩

set_option maxHeartbeats 2000000 in
set_option maxRecDepth 100000 in
theorem CheckTrack_ok (b off n c : Nat) (l : List Bell.Fx) (w : World) (hl : FixesAt w b off n l) (hg : Bell.GoodTr l) :
    Calls Tryd.prog 24 #[.slice (some ⟨b, off, none⟩) n c] w fun e w' => e = .returned (.int .i64 0) ∧ Below w.heap.size w w' := by
  have hn := hl.1
  have n1 : 2 ≤ n := by have := hg.lo; omega
  have n2 : n ≤ 16 := by have := hg.hi; omega
  have HL := Lib.hid hl
  have HGd := Lib.hid hg
  have HN := Lib.hid hn
  clear hl hg hn
  go_enter Tryd.func24, Tryd.ntmps24
  go_wp2_with fail
  refine (checkLength_ok (some ⟨b, off, none⟩) n c 16 w (by omega) n1).mono ?_
  rintro e w' ⟨rfl, rfl⟩
  go_wp2
  go_loopw [4, 5, 6, 14] (fun _ _ _ k wr => ∃ j : Nat, j ≤ n ∧ k = .int .i64 j ∧ Hid (Below w'.heap.size w' wr)) (fun _ _ _ k _ => n - (intOf k).toNat)
  case atStart => exact ⟨0, Nat.zero_le _, rfl, Below.refl _ _⟩
  case round =>
    obtain ⟨j, hj, rfl, hb⟩ := hrel
    have HLr := Lib.hid (HL.out.keep hb.out)
    by_cases hlt : j < n
    · obtain ⟨h0, h1, h2, h3, h4⟩ := HLr.out.2 j hlt
      have HP := Lib.hid (HGd.out.pts j (by rw [HN.out]; exact hlt))
      obtain ⟨P, hP⟩ : ∃ P, P = Bell.fxAt l j := ⟨_, rfl⟩
      rw [← hP] at h0 h1 h2 h3 h4 HP
      have HPE := Lib.hid hP
      clear hP
      have hbx : Hid (Below w'.heap.size w' (wr.alloc (.cells #[.int .i64 P.t, .int .i64 P.x, .int .i64 P.y, .int .i64 P.z, .int .i64 P.p] 68))) := hb.out.alloc hb.out.size _
      have hbk : Hid (Blk (wr.alloc (.cells #[.int .i64 P.t, .int .i64 P.x, .int .i64 P.y, .int .i64 P.z, .int .i64 P.p] 68)) wr.heap.size 68 #[.int .i64 P.t, .int .i64 P.x, .int .i64 P.y, .int .i64 P.z, .int .i64 P.p]) := Blk.new _ _ _
      go_wp2_with fail
      refine (fixCheck_any P _).mono ?_
      rw [fixE_good HP.out]
      rintro e w3 ⟨rfl, hb3⟩
      have HB3 := Lib.hid (hbx.out.trans (hb3.mono hbx.out.size))
      have HL3 := Lib.hid (HL.out.keep HB3.out)
      have hb4 := hbk.out.below hb3
      have c0 := hb4.cell 0
      simp only [List.getElem?_toArray, List.getElem?_cons_zero] at c0
      obtain ⟨gp, hgp⟩ : ∃ g, g = wr.heap.size := ⟨_, rfl⟩
      rw [← hgp] at c0 ⊢
      clear hb3 hb4 hbx hbk hgp h0 h1 h2 h3 h4 HLr
      rcases Nat.eq_zero_or_pos j with h0 | h0
      · subst h0
        go_wp2
        go_region
        go_wp2
        go_roundw
        case rel => exact ⟨1, by omega, by go_num, HB3.out.drew⟩
        case measure => simp [intOf]; omega
      · obtain ⟨q, rfl⟩ : ∃ q, j = q + 1 := ⟨j - 1, by omega⟩
        have hc := (HL3.out.2 q (by omega)).1
        have ht := HGd.out.up q (q + 1) (by omega) (by rw [HN.out]; exact hlt)
        rw [← HPE.out] at ht
        have hle : decide (P.t ≤ (Bell.fxAt l q).t) = false := decide_eq_false (by omega)
        obtain ⟨Q, hQ⟩ : ∃ Q, Q = Bell.fxAt l q := ⟨_, rfl⟩
        rw [← hQ] at hc hle
        clear hQ ht
        go_wp2
        go_region
        go_wp2
        go_roundw
        case rel => exact ⟨q + 1 + 1, by omega, by go_num, HB3.out.drew⟩
        case measure => simp [intOf]; omega
    · obtain rfl : j = n := by omega
      go_wp2_with fail
      refine (checkLasting_ok b off j c l wr HLr.out HGd.out).mono ?_
      rintro e w2 ⟨rfl, hb2⟩
      have HB2 := Lib.hid (hb.out.trans (hb2.mono hb.out.size))
      clear hb2
      go_wp2
      go_ret
      exact ⟨rfl, HB2.out⟩

set_option maxHeartbeats 2000000 in
set_option maxRecDepth 100000 in
theorem At_ok (b off n c : Nat) (l : List Bell.Fx) (k : Int) (w : World) (hl : FixesAt w b off n l) (hg : Bell.GoodTr l) (h1 : (Bell.fxAt l 0).t ≤ k) (h2 : k < (Bell.fxAt l (l.length - 1)).t) :
    Calls Tryd.prog 19 #[.slice (some ⟨b, off, none⟩) n c, .int .i64 k] w fun e w' => e = .returned (.tuple #[.agg (stV (Bell.stAt l k)), .int .i64 0]) ∧ Below w.heap.size w w' := by
  have hn := hl.1
  have n1 := hg.lo
  have n2 := hg.hi
  obtain ⟨m, rfl⟩ : ∃ m, n = m + 1 := ⟨n - 1, by omega⟩
  have HS := Lib.hid (fun W (hb : Below w.heap.size w W) => state_any b off (m + 1) c l k W (hl.keep hb) hg h1 h2)
  have HC := Lib.hid (fun W (hb : Below w.heap.size w W) => CheckTrack_ok b off (m + 1) c l W (hl.keep hb) hg)
  have HE := Lib.hid (fun W (hb : Below w.heap.size w W) => last_any b off m c l W (hl.keep hb) (by omega))
  have H0 := Lib.hid (fun W (hb : Below w.heap.size w W) => ((hl.keep hb).2 0 (by omega)).1)
  rw [hn, Nat.add_sub_cancel] at h2
  obtain ⟨A, hA⟩ : ∃ A, A = Bell.fxAt l 0 := ⟨_, rfl⟩
  obtain ⟨B, hB⟩ : ∃ B, B = Bell.fxAt l m := ⟨_, rfl⟩
  obtain ⟨S, hS⟩ : ∃ S, S = Bell.stAt l k := ⟨_, rfl⟩
  rw [← hA] at h1 H0
  rw [← hB] at h2 HE
  rw [← hS] at HS ⊢
  have hd1 : decide (k < A.t) = false := decide_eq_false (by omega)
  have hd2 : decide (B.t ≤ k) = false := decide_eq_false (by omega)
  have hfl := fix_tick B.t B.x B.y B.z B.p
  have hm : 1 ≤ m := by omega
  clear hl hg h1 h2 hn n1 n2 hA hB hS
  go_enter Tryd.func19, Tryd.ntmps19
  go_upto_region 1 with fail
  obtain ⟨w1, hw1⟩ : ∃ X, X = w.alloc (.cells #[.int .i64 0, .int .i64 0, .int .i64 0, .int .i64 0, .int .i64 0, .int .i64 0] 72) := ⟨_, rfl⟩
  rw [← hw1]
  have HZ : Hid (Blk w1 w.heap.size 72 #[.int .i64 0, .int .i64 0, .int .i64 0, .int .i64 0, .int .i64 0, .int .i64 0]) := by show Blk _ _ _ _; rw [hw1]; exact Blk.new _ _ _
  have HB : Hid (Below w.heap.size w w1) := by show Below _ _ _; rw [hw1]; exact (Below.refl _ _).alloc (Nat.le_refl _) _
  obtain ⟨gz, hgz⟩ : ∃ g, g = w.heap.size := ⟨_, rfl⟩
  rw [← hgz] at HZ ⊢
  have HG := Lib.hid hgz
  clear hw1 hgz
  go_wp2_with fail
  refine (HC.out w1 HB.out).mono ?_
  rintro e w2 ⟨rfl, hb2⟩
  have HZ2 := Lib.hid (HZ.out.below hb2)
  have HB2 := Lib.hid (HB.out.trans (hb2.mono HB.out.size))
  clear hb2 HZ HB HC
  have c0 := H0.out w2 HB2.out
  simp only [Nat.zero_mul, Nat.add_zero] at c0
  go_wp2_with fail
  refine (HE.out w2 HB2.out).mono ?_
  rintro e w3 ⟨rfl, hb3⟩
  have HZ3 := Lib.hid (HZ2.out.below hb3)
  have HB3 := Lib.hid (HB2.out.trans (hb3.mono HB2.out.size))
  clear hb3 HZ2 HB2 HE c0 H0
  simp only [fxV]
  go_wp2_with fail
  refine (HS.out w3 HB3.out).mono ?_
  rintro e w4 ⟨rfl, hb4⟩
  have HZ4 := Lib.hid (HZ3.out.below hb4)
  have HB4 := Lib.hid (HB3.out.trans (hb4.mono HB3.out.size))
  clear hb4 HZ3 HB3 HS
  go_wp2_with (refine wpList_store_row rfl 72 _ _ rfl gz (stV S) rfl rfl 72 _ HZ4.out (by kernel_rfl) rfl (by simp [Value.oneCell', stV]) ?_)
  have hlv := (HZ4.out.setRow (stV S)).lv Tryd.prog (T := 72) Tryd.underlying72 rfl (by kernel_rfl)
  refine bodyPost_ret (v := .tuple #[.agg (stV S), .int .i64 0]) (by simp [results, Tryd.results19, asAddr, hlv]) rfl ?_
  exact ⟨rfl, HB4.out.setRow' (by rw [HG.out]; exact Nat.le_refl _) _⟩

end Go.Proofs.YtnbionhahifacaaDoor
