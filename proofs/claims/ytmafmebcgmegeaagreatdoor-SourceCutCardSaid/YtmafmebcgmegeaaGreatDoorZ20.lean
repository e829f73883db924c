/- Texts Ir Is of the proof. -/
import Derived.Test.YtmafmebcgmegeaaGreatDoorZ19
import Derived.RangeFuncBox
import Derived.WalkMore
namespace Go.Proofs.YtmafmebcgmegeaaGreatDoor
open Go.RowKit Go.Sort
/-- A setting in memory. -/
def SetAt (w : World) (b o : Nat) (p : Int) (ea : Option Addr) (en ec : Nat) : Prop := w.cell? ⟨b, o, none⟩ = some (.int .i64 p) ∧ w.cell? ⟨b, o + 1, none⟩ = some (.slice ea en ec)
/-- What comes behind a region, once for all its ends. -/
theorem via3 {A B : World → Nat → Prop} {C : World → Prop} {G : Prop} (M : World → Nat → Nat → Prop) (h : (∀ (w2 : World) (a b : Nat), A w2 a → B w2 b → C w2 → M w2 a b) → G) (k : ∀ (w2 : World) (a b : Nat), A w2 a → B w2 b → C w2 → M w2 a b) : G := h k
set_option maxHeartbeats 4000000 in
set_option maxRecDepth 100000 in
theorem refSetting_any {cs : Array Value} (w : World) (gb go gn gc k q : Nat) (h12 : cs[12]? = some (.slice (some ⟨gb, go, none⟩) gn gc)) (qa : Option Addr) (qn qc : Nat) (h11 : cs[11]? = some (.slice qa qn qc)) (hk : k < gn) (hq : q = k - 1) (hgn : gn ≤ 7)
    (p p0 : Int) (ea fa : Option Addr) (en ec fn fc : Nat) (zs ys : List Int) (hs : SetAt w gb (go + k * 2) p ea en ec) (hf : SetAt w gb (go + q * 2) p0 fa fn fc) (hz : IntsAt w ea en zs) (hy : IntsAt w fa fn ys) (hen : en ≤ 9) (hfn : 0 < k → fn = qn) :
    Calls Tryz.prog 106 #[.agg cs, .int .i64 k] w fun e w' => ∃ E : Int, e = .returned (.int .i64 E) ∧ Hid (E = 0 → en = qn ∧ (1 ≤ p ∧ p ≤ 100) ∧ (0 < k → p0 < p) ∧ (∀ x, x ∈ zs → 0 ≤ x ∧ x ≤ 100000000) ∧ (∀ i, 0 < i → i < en → zs.getD i 0 ≤ zs.getD (i - 1) 0) ∧ (0 < k → ∀ i, i < en → ys.getD i 0 ≤ zs.getD i 0)) ∧ Below w.heap.size w w' := by
  have HZ := Lib.hid hz
  have HY := Lib.hid hy
  have HFN := Lib.hid hfn
  have HS := Lib.hid hs
  have HF := Lib.hid hf
  have HQ := Lib.hid hq
  clear hz hy hfn hs hf
  go_enter Tryz.func106, Tryz.ntmps106
  go_upto_region 1 with fail
  obtain ⟨w1, hw1⟩ : ∃ W, W = w.alloc (.cells cs 26) := ⟨_, rfl⟩
  rw [← hw1]
  have T1 : Hid (Blk w1 w.heap.size 26 cs) := by show Blk _ _ _ _; rw [hw1]; exact Blk.new _ _ _
  have HB1 : Hid (Below w.heap.size w w1) := by show Below _ _ _; rw [hw1]; exact (Below.refl _ _).alloc (Nat.le_refl _) _
  obtain ⟨g, hg⟩ : ∃ g, g = w.heap.size := ⟨_, rfl⟩
  rw [← hg] at T1 ⊢
  have HGs := Lib.hid hg
  clear hw1 hg
  have kc : ∀ {x : Addr} {v : Value}, w.cell? x = some v → w1.cell? x = some v := fun {x v} hc => by rw [HB1.out.cell (World.block_lt_of_cell? _ _ hc)]; exact hc
  have t12 := (T1.out.cell 12).trans h12
  have s0 := kc HS.out.1
  have s1 := kc HS.out.2
  have f0 := kc HF.out.1
  have f1 := kc HF.out.2
  have hmx : ∀ ts t W, (Builtin.max_ ts t #[.int .i64 0, .int .i64 ((k : Int) - 1)]).run Tryz.prog W = .ok (.int .i64 (q : Int)) W := fun ts t W => by
    rw [run_max2']; congr 2; omega
  have wk : IntKind.i64.wrap ((k : Int) - 1) = (k : Int) - 1 := IntWalk.i64_in _ (by omega)
  have pl : (k : Int) < (gn : Int) := by omega
  have pl2 : (q : Int) < (gn : Int) := by omega
  clear kc hq
  have hgl : g < w1.heap.size := lt_of_block T1.out
  have hgbl : gb < w1.heap.size := World.block_lt_of_cell? _ _ s0
  have e1 : (g = w1.heap.size) = False := by simp; omega
  have e2 : (g = w1.heap.size + 1) = False := by simp; omega
  have e3 : (gb = w1.heap.size) = False := by simp; omega
  have e4 : (gb = w1.heap.size + 1) = False := by simp; omega
  apply via3 (A := fun (W : World) (a : Nat) => Hid (Blk W a 145 #[.int .i64 p, .slice ea en ec])) (B := fun (W : World) (a : Nat) => Hid (Blk W a 145 #[.int .i64 p0, .slice fa fn fc])) (C := fun W => Hid (Below w1.heap.size w1 W))
  · intro key
    go_region
    all_goals
      first
      | (obtain ⟨w2, hw2⟩ : ∃ W, W = ((w1.alloc (.cells #[.int .i64 p, .slice ea en ec] 145)).alloc (.cells #[.int .i64 p0, .slice fa fn fc] 145)).drew := ⟨_, rfl⟩
         rw [← hw2]
         have P2 : Hid (Blk w2 (w1.heap.size) 145 #[.int .i64 p, .slice ea en ec]) := by show Blk _ _ _ _; rw [hw2]; exact ((Blk.new _ _ _).alloc _).drew
         have F2 : Hid (Blk w2 (w1.heap.size + 1) 145 #[.int .i64 p0, .slice fa fn fc]) := by show Blk _ _ _ _; rw [hw2]; exact (Blk.at_size _ _ (by simp)).drew
         have hb2 : Hid (Below w1.heap.size w1 w2) := by show Below _ _ _; rw [hw2]; exact (((Below.refl _ _).alloc (Nat.le_refl _) _).alloc (by simp) _).drew
         obtain ⟨gP, hgP⟩ : ∃ x, x = w1.heap.size := ⟨_, rfl⟩
         obtain ⟨gF, hgF⟩ : ∃ x, x = w1.heap.size + 1 := ⟨_, rfl⟩
         rw [← hgP] at P2
         rw [← hgF] at F2
         rw [← hgF, ← hgP]
         exact key w2 gP gF P2 F2 hb2)
      | (obtain ⟨w2, hw2⟩ : ∃ W, W = ((w1.alloc (.cells #[.int .i64 p0, .slice fa fn fc] 145)).alloc (.cells #[.int .i64 p, .slice ea en ec] 145)).drew := ⟨_, rfl⟩
         rw [← hw2]
         have P2 : Hid (Blk w2 (w1.heap.size + 1) 145 #[.int .i64 p, .slice ea en ec]) := by show Blk _ _ _ _; rw [hw2]; exact (Blk.at_size _ _ (by simp)).drew
         have F2 : Hid (Blk w2 (w1.heap.size) 145 #[.int .i64 p0, .slice fa fn fc]) := by show Blk _ _ _ _; rw [hw2]; exact ((Blk.new _ _ _).alloc _).drew
         have hb2 : Hid (Below w1.heap.size w1 w2) := by show Below _ _ _; rw [hw2]; exact (((Below.refl _ _).alloc (Nat.le_refl _) _).alloc (by simp) _).drew
         obtain ⟨gP, hgP⟩ : ∃ x, x = w1.heap.size + 1 := ⟨_, rfl⟩
         obtain ⟨gF, hgF⟩ : ∃ x, x = w1.heap.size := ⟨_, rfl⟩
         rw [← hgP] at P2
         rw [← hgF] at F2
         rw [← hgP, ← hgF]
         exact key w2 gP gF P2 F2 hb2)
  · intro w2 gP gF P2 F2 hb2
    have hb2 := hb2.out
    have T2 := Lib.hid (T1.out.below hb2)
    have HB2 := Lib.hid (HB1.out.trans (hb2.mono HB1.out.size))
    have HZ2 := Lib.hid (HZ.out.keep HB2.out)
    have HY2 := Lib.hid (HY.out.keep HB2.out)
    clear hb2 t12 s0 s1 f0 f1 hmx wk pl pl2 hgl hgbl e1 e2 e3 e4
    have a0 := fun d os => cell_regrown (P2.out.cell 0) d os
    have a1 := fun d os => cell_regrown (P2.out.cell 1) d os
    have b0 := fun d os => cell_regrown (F2.out.cell 0) d os
    have t11 := fun d os => cell_regrown ((T2.out.cell 11).trans h11) d os
    have cp := fun d os => Calls.regrown_of (Calls.grow_same (refPower_st p (grow (redrawn w2 d) os)))
    obtain ⟨x2, hx2⟩ : ∃ f : Int, f = if ((en : Int) != (qn : Int)) = true then 2 else 0 := ⟨_, rfl⟩
    have c2 := fun d os => Calls.regrown_of (Calls.grow_same (refWhen_as (grow (redrawn w2 d) os) hx2))
    obtain ⟨R, hR⟩ : ∃ R, R = firstInE (fun x => withinE x 0 100000000) zs := ⟨_, rfl⟩
    have cr := fun d os => Calls.regrown_of (Calls.grow_same (refRanges_any ea en ec zs 0 100000000 (grow (redrawn w2 d) os) (by omega) (HZ2.out.keep (below_regrown w2 d os))))
    rw [← hR] at cr
    have HX2 := Lib.hid hx2
    have HR := Lib.hid hR
    clear hx2 hR
    rcases Nat.eq_zero_or_pos k with hk0 | hk0
    · have g0 : decide (0 < k) = false := decide_eq_false (by omega)
      have g1 : decide ((0 : Int) < (k : Int)) = false := decide_eq_false (by omega)
      have HK0 := Lib.hid hk0
      obtain ⟨x1, hx1⟩ : ∃ f : Int, f = if false = true then 11 else 0 := ⟨_, rfl⟩
      have HX1 : Hid (x1 = if decide (0 < k) && decide (p ≤ p0) then 11 else 0) := by show _ = _; rw [hx1, g0]; simp
      have c1 := fun d os => Calls.regrown_of (Calls.grow_same (refWhen_as (grow (redrawn w2 d) os) hx1))
      clear hx1 hk0
      go_wp2
      refine wp_region_below_tail 24 (by kernel_rfl) (by kernel_rfl) ?_
      simp only [List.take_succ_cons, List.take_zero, List.drop_succ_cons, List.drop_zero]
      iterate 2 (go_big_quiet_step (fail))
      go_big_quiet_step (exact cp _ _)
      iterate 9 (go_big_quiet_step (fail))
      go_big_quiet_step (exact c1 _ _)
      iterate 7 (go_big_quiet_step (fail))
      go_big_quiet_step (exact c2 _ _)
      iterate 2 (go_big_quiet_step (fail))
      go_big_quiet_step (exact cr _ _)
      refine wpQuiet_nil ?_
      intro w3 hw'
      obtain ⟨⟨dq, osq⟩, hw''⟩ := hw'
      have hb3 := below_regrown w2 dq osq
      rw [← hw''] at hb3
      have HB3 := Lib.hid (HB2.out.trans (hb3.mono HB2.out.size))
      have P3 := Lib.hid (P2.out.below hb3)
      have F3 := Lib.hid (F2.out.below hb3)
      clear hw'' a0 a1 b0 t11 cp c1 c2 cr hb3 HB2 P2 F2 T2 HZ2 HY2
      go_wp2_with fail
      refine (refFirst4 _ _ (withinE p 1 100) x1 x2 R _ (by go_simp) (by go_simp) (by go_simp) (by go_simp)).mono ?_
      obtain ⟨F, hF⟩ : ∃ F, F = firstE [withinE p 1 100, x1, x2, R] := ⟨_, rfl⟩
      rw [← hF]
      have HF := Lib.hid hF
      clear hF
      rintro e w4 ⟨rfl, rfl⟩
      obtain ⟨w5, hw5⟩ : ∃ W, W = w3.alloc (.cells #[.int .i64 (withinE p 1 100), .int .i64 x1, .int .i64 x2, .int .i64 R] 3) := ⟨_, rfl⟩
      rw [← hw5]
      have hb5 : Below w3.heap.size w3 w5 := by rw [hw5]; exact (Below.refl _ _).alloc (Nat.le_refl _) _
      have HB5 := Lib.hid (HB3.out.trans (hb5.mono HB3.out.size))
      have P5 := Lib.hid (P3.out.below hb5)
      have F5 := Lib.hid (F3.out.below hb5)
      clear hw5 hb5 HB3 P3 F3
      by_cases hf0 : F = 0
      rotate_left
      · have h1 : (F != 0) = true := by simp [hf0]
        go_wp2
        go_ret
        exact ⟨F, rfl, (fun h => absurd h hf0), HB5.out⟩
      have h1 : (F != 0) = false := by simp [hf0]
      obtain ⟨z1, z2, z3, z4⟩ := firstE4_zero (HF.out.symm.trans hf0)
      have hq2 : en = qn := by
        have h9 := when_off (by omega) HX2.out z3
        have h8 : (en : Int) = (qn : Int) := by simpa using h9
        omega
      have HEQ := Lib.hid hq2
      have HFE : Hid (0 < k → fn = en) := fun h => (HFN.out h).trans hq2.symm
      have HW := Lib.hid z1
      have HR0 := Lib.hid (HR.out.symm.trans z4)
      have HX0 : Hid ((decide (0 < k) && decide (p ≤ p0)) = false) := when_off (by omega) HX1.out z2
      clear z1 z2 z3 z4 hf0 hq2
      have c5 := P5.out.cell 1
      have d5 := F5.out.cell 1
      simp only [List.getElem?_toArray, List.getElem?_cons_zero, List.getElem?_cons_succ] at c5 d5
      go_wp2
      go_loopw [4, 8] (fun _ j wr => ∃ m : Nat, m ≤ en ∧ j = .int .i64 m ∧ Hid (∀ i, 0 < i → i < m → zs.getD i 0 ≤ zs.getD (i - 1) 0) ∧ Hid (0 < k → ∀ i, i < m → ys.getD i 0 ≤ zs.getD i 0) ∧ ∃ q', wr = w5.drewN q') (fun _ j _ => en - (intOf j).toNat)
      case atStart => exact ⟨0, Nat.zero_le _, rfl, (fun i _ hi => by omega), (fun _ i hi => by omega), 0, rfl⟩
      case round =>
        obtain ⟨m, hm, rfl, hd, ho, q', rfl⟩ := hrel
        by_cases hlt : m < en
        rotate_left
        · obtain rfl : m = en := by omega
          clear hlt
          go_wp2
          go_ret
          refine ⟨0, rfl, (fun _ => ⟨HEQ.out, withinE_zero HW.out, (fun h => ?_), firstIn_rng HR0.out, hd.out, ho.out⟩), below_drewN' HB5.out _⟩
          have h2 := HX0.out
          rw [decide_eq_true h, Bool.true_and] at h2
          have := of_decide_eq_false h2
          omega
        · obtain ⟨zb, zo, hze, hz⟩ := (HZ.out.keep HB5.out).2 (by omega)
          have HC := Lib.hid hz
          have h0 := hz m hlt
          have c6 := c5
          rw [hze] at c6
          obtain ⟨x, hx⟩ : ∃ x, x = zs.getD m 0 := ⟨_, rfl⟩
          rw [← hx] at h0
          have HX := Lib.hid hx
          have pm : (m : Int) < (en : Int) := by omega
          clear hx hz hze c5
          rcases Nat.eq_zero_or_pos m with rfl | hp
          · rw [Nat.add_zero] at h0
            clear d5
            go_wp2
            go_quiet (fail)
            go_wp2
            go_roundw
            case rel =>
              refine ⟨1, by omega, by go_num, (fun i hi0 hi => ?_), (fun h => absurd h (by have := HK0.out; omega)), _, rfl⟩
              · omega
            case measure => simp [intOf]; omega
          · have g2 : decide (0 < m) = true := decide_eq_true hp
            have g3 : decide ((0 : Int) < (m : Int)) = true := decide_eq_true (by omega)
            obtain ⟨q2, hpm⟩ : ∃ q2, q2 = m - 1 := ⟨_, rfl⟩
            have h2 := HC.out q2 (by omega)
            obtain ⟨y, hy⟩ : ∃ y, y = zs.getD q2 0 := ⟨_, rfl⟩
            rw [← hy] at h2
            have HY2 : Hid (y = zs.getD q2 0) := hy
            have hmx2 : ∀ ts t W, (Builtin.max_ ts t #[.int .i64 0, .int .i64 ((m : Int) - 1)]).run Tryz.prog W = .ok (.int .i64 (q2 : Int)) W := fun ts t W => by
              rw [run_max2']; congr 2; omega
            have pl : (q2 : Int) < (en : Int) := by omega
            have wj : IntKind.i64.wrap ((m : Int) - 1) = (m : Int) - 1 := IntWalk.i64_in _ (by omega)
            have HPM : Hid (m - 1 = q2) := hpm.symm
            clear hy hp hpm
            by_cases hxy : y < x
            · have t1 : decide (y < x) = true := decide_eq_true hxy
              clear hxy
              go_wp2
              go_quiet (fail)
              go_wp2
              go_ret
              exact ⟨21, rfl, (fun h => absurd h (by omega)), below_drewN' (below_drewN' HB5.out _) _⟩
            · have t1 : decide (y < x) = false := decide_eq_false hxy
              have HXY := Lib.hid hxy
              clear hxy
              clear d5
              go_wp2
              go_quiet (fail)
              go_wp2
              go_roundw
              case rel =>
                refine ⟨m + 1, by omega, by go_num, (fun i hi0 hi => ?_), (fun h => absurd h (by have := HK0.out; omega)), _, rfl⟩
                · by_cases him : i < m
                  · exact hd.out i hi0 him
                  · obtain rfl : i = m := by omega
                    have := HXY.out
                    rw [HPM.out, ← HX.out, ← HY2.out]; omega
              case measure => simp [intOf]; omega
    · have g0 : decide (0 < k) = true := decide_eq_true (by omega)
      have g1 : decide ((0 : Int) < (k : Int)) = true := decide_eq_true (by omega)
      have HK0 := Lib.hid hk0
      obtain ⟨x1, hx1⟩ : ∃ f : Int, f = if decide (p ≤ p0) = true then 11 else 0 := ⟨_, rfl⟩
      have HX1 : Hid (x1 = if decide (0 < k) && decide (p ≤ p0) then 11 else 0) := by show _ = _; rw [hx1, g0]; simp
      have c1 := fun d os => Calls.regrown_of (Calls.grow_same (refWhen_as (grow (redrawn w2 d) os) hx1))
      clear hx1 hk0
      go_wp2
      refine wp_region_below_tail 24 (by kernel_rfl) (by kernel_rfl) ?_
      simp only [List.take_succ_cons, List.take_zero, List.drop_succ_cons, List.drop_zero]
      iterate 2 (go_big_quiet_step (fail))
      go_big_quiet_step (exact cp _ _)
      iterate 9 (go_big_quiet_step (fail))
      go_big_quiet_step (exact c1 _ _)
      iterate 7 (go_big_quiet_step (fail))
      go_big_quiet_step (exact c2 _ _)
      iterate 2 (go_big_quiet_step (fail))
      go_big_quiet_step (exact cr _ _)
      refine wpQuiet_nil ?_
      intro w3 hw'
      obtain ⟨⟨dq, osq⟩, hw''⟩ := hw'
      have hb3 := below_regrown w2 dq osq
      rw [← hw''] at hb3
      have HB3 := Lib.hid (HB2.out.trans (hb3.mono HB2.out.size))
      have P3 := Lib.hid (P2.out.below hb3)
      have F3 := Lib.hid (F2.out.below hb3)
      clear hw'' a0 a1 b0 t11 cp c1 c2 cr hb3 HB2 P2 F2 T2 HZ2 HY2
      go_wp2_with fail
      refine (refFirst4 _ _ (withinE p 1 100) x1 x2 R _ (by go_simp) (by go_simp) (by go_simp) (by go_simp)).mono ?_
      obtain ⟨F, hF⟩ : ∃ F, F = firstE [withinE p 1 100, x1, x2, R] := ⟨_, rfl⟩
      rw [← hF]
      have HF := Lib.hid hF
      clear hF
      rintro e w4 ⟨rfl, rfl⟩
      obtain ⟨w5, hw5⟩ : ∃ W, W = w3.alloc (.cells #[.int .i64 (withinE p 1 100), .int .i64 x1, .int .i64 x2, .int .i64 R] 3) := ⟨_, rfl⟩
      rw [← hw5]
      have hb5 : Below w3.heap.size w3 w5 := by rw [hw5]; exact (Below.refl _ _).alloc (Nat.le_refl _) _
      have HB5 := Lib.hid (HB3.out.trans (hb5.mono HB3.out.size))
      have P5 := Lib.hid (P3.out.below hb5)
      have F5 := Lib.hid (F3.out.below hb5)
      clear hw5 hb5 HB3 P3 F3
      by_cases hf0 : F = 0
      rotate_left
      · have h1 : (F != 0) = true := by simp [hf0]
        go_wp2
        go_ret
        exact ⟨F, rfl, (fun h => absurd h hf0), HB5.out⟩
      have h1 : (F != 0) = false := by simp [hf0]
      obtain ⟨z1, z2, z3, z4⟩ := firstE4_zero (HF.out.symm.trans hf0)
      have hq2 : en = qn := by
        have h9 := when_off (by omega) HX2.out z3
        have h8 : (en : Int) = (qn : Int) := by simpa using h9
        omega
      have HEQ := Lib.hid hq2
      have HFE : Hid (0 < k → fn = en) := fun h => (HFN.out h).trans hq2.symm
      have HW := Lib.hid z1
      have HR0 := Lib.hid (HR.out.symm.trans z4)
      have HX0 : Hid ((decide (0 < k) && decide (p ≤ p0)) = false) := when_off (by omega) HX1.out z2
      clear z1 z2 z3 z4 hf0 hq2
      have c5 := P5.out.cell 1
      have d5 := F5.out.cell 1
      simp only [List.getElem?_toArray, List.getElem?_cons_zero, List.getElem?_cons_succ] at c5 d5
      go_wp2
      go_loopw [4, 8] (fun _ j wr => ∃ m : Nat, m ≤ en ∧ j = .int .i64 m ∧ Hid (∀ i, 0 < i → i < m → zs.getD i 0 ≤ zs.getD (i - 1) 0) ∧ Hid (0 < k → ∀ i, i < m → ys.getD i 0 ≤ zs.getD i 0) ∧ ∃ q', wr = w5.drewN q') (fun _ j _ => en - (intOf j).toNat)
      case atStart => exact ⟨0, Nat.zero_le _, rfl, (fun i _ hi => by omega), (fun _ i hi => by omega), 0, rfl⟩
      case round =>
        obtain ⟨m, hm, rfl, hd, ho, q', rfl⟩ := hrel
        by_cases hlt : m < en
        rotate_left
        · obtain rfl : m = en := by omega
          clear hlt
          go_wp2
          go_ret
          refine ⟨0, rfl, (fun _ => ⟨HEQ.out, withinE_zero HW.out, (fun h => ?_), firstIn_rng HR0.out, hd.out, ho.out⟩), below_drewN' HB5.out _⟩
          have h2 := HX0.out
          rw [decide_eq_true h, Bool.true_and] at h2
          have := of_decide_eq_false h2
          omega
        · obtain ⟨zb, zo, hze, hz⟩ := (HZ.out.keep HB5.out).2 (by omega)
          have HC := Lib.hid hz
          have h0 := hz m hlt
          have c6 := c5
          rw [hze] at c6
          obtain ⟨x, hx⟩ : ∃ x, x = zs.getD m 0 := ⟨_, rfl⟩
          rw [← hx] at h0
          have HX := Lib.hid hx
          have pm : (m : Int) < (en : Int) := by omega
          clear hx hz hze c5
          rcases Nat.eq_zero_or_pos m with rfl | hp
          · rw [Nat.add_zero] at h0
            have hfe := HFE.out HK0.out
            obtain ⟨yb, yo, hye, hy⟩ := (HY.out.keep HB5.out).2 (by omega)
            have u0 := hy 0 (by omega)
            have d6 := d5
            rw [hye] at d6
            obtain ⟨u, hu⟩ : ∃ u, u = ys.getD 0 0 := ⟨_, rfl⟩
            rw [← hu] at u0
            have HU := Lib.hid hu
            have pf : (0 : Int) < (fn : Int) := by omega
            clear hu hy hye d5 hfe
            rw [Nat.add_zero] at u0
            by_cases hxu : x < u
            · have t2 : decide (x < u) = true := decide_eq_true hxu
              clear hxu
              go_wp2
              go_quiet (fail)
              go_wp2
              go_ret
              exact ⟨21, rfl, (fun h => absurd h (by omega)), below_drewN' (below_drewN' HB5.out _) _⟩
            · have t2 : decide (x < u) = false := decide_eq_false hxu
              have HXU := Lib.hid hxu
              clear hxu
              go_wp2
              go_quiet (fail)
              go_wp2
              go_roundw
              case rel =>
                refine ⟨1, by omega, by go_num, (fun i hi0 hi => ?_), (fun h i hi => ?_), _, rfl⟩
                · omega
                · by_cases him : i < 0
                  · exact ho.out h i him
                  · obtain rfl : i = 0 := by omega
                    have := HXU.out
                    rw [← HX.out, ← HU.out]; omega
              case measure => simp [intOf]; omega
          · have g2 : decide (0 < m) = true := decide_eq_true hp
            have g3 : decide ((0 : Int) < (m : Int)) = true := decide_eq_true (by omega)
            obtain ⟨q2, hpm⟩ : ∃ q2, q2 = m - 1 := ⟨_, rfl⟩
            have h2 := HC.out q2 (by omega)
            obtain ⟨y, hy⟩ : ∃ y, y = zs.getD q2 0 := ⟨_, rfl⟩
            rw [← hy] at h2
            have HY2 : Hid (y = zs.getD q2 0) := hy
            have hmx2 : ∀ ts t W, (Builtin.max_ ts t #[.int .i64 0, .int .i64 ((m : Int) - 1)]).run Tryz.prog W = .ok (.int .i64 (q2 : Int)) W := fun ts t W => by
              rw [run_max2']; congr 2; omega
            have pl : (q2 : Int) < (en : Int) := by omega
            have wj : IntKind.i64.wrap ((m : Int) - 1) = (m : Int) - 1 := IntWalk.i64_in _ (by omega)
            have HPM : Hid (m - 1 = q2) := hpm.symm
            clear hy hp hpm
            by_cases hxy : y < x
            · have t1 : decide (y < x) = true := decide_eq_true hxy
              clear hxy
              go_wp2
              go_quiet (fail)
              go_wp2
              go_ret
              exact ⟨21, rfl, (fun h => absurd h (by omega)), below_drewN' (below_drewN' HB5.out _) _⟩
            · have t1 : decide (y < x) = false := decide_eq_false hxy
              have HXY := Lib.hid hxy
              clear hxy
              have hfe := HFE.out HK0.out
              obtain ⟨yb, yo, hye, hy⟩ := (HY.out.keep HB5.out).2 (by omega)
              have u0 := hy m (by omega)
              have d6 := d5
              rw [hye] at d6
              obtain ⟨u, hu⟩ : ∃ u, u = ys.getD m 0 := ⟨_, rfl⟩
              rw [← hu] at u0
              have HU := Lib.hid hu
              have pf : (m : Int) < (fn : Int) := by omega
              clear hu hy hye d5 hfe
              by_cases hxu : x < u
              · have t2 : decide (x < u) = true := decide_eq_true hxu
                clear hxu
                go_wp2
                go_quiet (fail)
                go_wp2
                go_ret
                exact ⟨21, rfl, (fun h => absurd h (by omega)), below_drewN' (below_drewN' HB5.out _) _⟩
              · have t2 : decide (x < u) = false := decide_eq_false hxu
                have HXU := Lib.hid hxu
                clear hxu
                go_wp2
                go_quiet (fail)
                go_wp2
                go_roundw
                case rel =>
                  refine ⟨m + 1, by omega, by go_num, (fun i hi0 hi => ?_), (fun h i hi => ?_), _, rfl⟩
                  · by_cases him : i < m
                    · exact hd.out i hi0 him
                    · obtain rfl : i = m := by omega
                      have := HXY.out
                      rw [HPM.out, ← HX.out, ← HY2.out]; omega
                  · by_cases him : i < m
                    · exact ho.out h i him
                    · obtain rfl : i = m := by omega
                      have := HXU.out
                      rw [← HX.out, ← HU.out]; omega
                case measure => simp [intOf]; omega
end Go.Proofs.YtmafmebcgmegeaaGreatDoor

namespace Go.Proofs.YtmafmebcgmegeaaGreatDoor
open Go.RowKit
def fxCells (l : List Bell.Fx) : List Value := l.flatMap fun p => [.int .i64 p.t, .int .i64 p.x, .int .i64 p.y, .int .i64 p.z, .int .i64 p.p]
theorem fxCells_len (l : List Bell.Fx) : (fxCells l).length = l.length * 5 := by
  induction l with
  | nil => rfl
  | cons p l ih => simp only [fxCells, List.flatMap_cons, List.length_append, List.length_cons, List.length_nil] at *; omega
theorem fxCells_snoc (l : List Bell.Fx) (p : Bell.Fx) : fxCells (l ++ [p]) = fxCells l ++ [.int .i64 p.t, .int .i64 p.x, .int .i64 p.y, .int .i64 p.z, .int .i64 p.p] := by simp [fxCells]
theorem fxCells_at (l : List Bell.Fx) (i : Nat) (hi : i < l.length) : (fxCells l)[i * 5]? = some (.int .i64 (Bell.fxAt l i).t) ∧ (fxCells l)[i * 5 + 1]? = some (.int .i64 (Bell.fxAt l i).x) ∧ (fxCells l)[i * 5 + 2]? = some (.int .i64 (Bell.fxAt l i).y) ∧ (fxCells l)[i * 5 + 3]? = some (.int .i64 (Bell.fxAt l i).z) ∧ (fxCells l)[i * 5 + 4]? = some (.int .i64 (Bell.fxAt l i).p) := by
  induction l generalizing i with
  | nil => simp at hi
  | cons p l ih =>
    cases i with
    | zero => exact ⟨rfl, rfl, rfl, rfl, rfl⟩
    | succ i =>
      have := ih i (by simpa using hi)
      have e : fxCells (p :: l) = Value.int .i64 p.t :: Value.int .i64 p.x :: Value.int .i64 p.y :: Value.int .i64 p.z :: Value.int .i64 p.p :: fxCells l := rfl
      have ef : Bell.fxAt (p :: l) (i + 1) = Bell.fxAt l i := rfl
      rw [e, ef, show (i + 1) * 5 = i * 5 + 1 + 1 + 1 + 1 + 1 by omega]
      simpa using this
/-- A track of the call's own. -/
def OwnT (w : World) (base : Nat) (v : Value) (l : List Bell.Fx) : Prop := w.ownsRow base 152 5 v l.length (fxCells l)
theorem OwnT.at_ {w : World} {base : Nat} {v : Value} {l : List Bell.Fx} (h : OwnT w base v l) : ∃ A c, v = .slice A l.length c ∧ TrAt w A l.length l ∧ l.length ≤ c ∧ c ≤ 9223372036854775807 := by
  have h0 := h
  rcases h.2 with ⟨hv, hn⟩ | ⟨g, cap, cur, hv, hb, hg, hnc, hm, hs', ht⟩
  · exact ⟨none, 0, by rw [hv, hn], ⟨rfl, fun h => by omega⟩, by omega, by omega⟩
  · subst hv
    refine ⟨_, _, rfl, ⟨rfl, fun _ => ⟨g, 0, rfl, rfl, fun i hi => ?_⟩⟩, hnc, by unfold maxLen at hm; omega⟩
    obtain ⟨p0, p1, p2, p3, p4⟩ := fxCells_at l i hi
    unfold FixAt
    simp only [Nat.zero_add]
    refine ⟨?_, ?_, ?_, ?_, ?_⟩
    · rw [World.ownsRow.cellAt h0 (i * 5) (by omega)]; exact p0
    · rw [World.ownsRow.cellAt h0 (i * 5 + 1) (by omega)]; exact p1
    · rw [World.ownsRow.cellAt h0 (i * 5 + 2) (by omega)]; exact p2
    · rw [World.ownsRow.cellAt h0 (i * 5 + 3) (by omega)]; exact p3
    · rw [World.ownsRow.cellAt h0 (i * 5 + 4) (by omega)]; exact p4
theorem infoFix : (Tryz.prog.info? 152).map (fun i => (i.zero, i.size, i.bytes)) = some (some (.agg #[.int .i64 0, .int .i64 0, .int .i64 0, .int .i64 0, .int .i64 0]), 5, 40) := by kernel_rfl
theorem addAddr (b off j : Nat) : (⟨b, off, none⟩ : Addr).add j = ⟨b, off + j, none⟩ := by unfold Addr.add; split <;> simp_all
theorem cells_five_at (w : World) (t : TypeId) (a b c d e : Value) : ∀ (j : Nat) (u : Value), [a, b, c, d, e][j]? = some u → (w.alloc (.cells #[a, b, c, d, e] t)).cell? ((⟨w.heap.size, 0, none⟩ : Addr).add j) = some u := fun j u h => by
  rw [addAddr, Nat.zero_add, (Blk.new w t #[a, b, c, d, e]).cell j]
  simpa using h
end Go.Proofs.YtmafmebcgmegeaaGreatDoor
