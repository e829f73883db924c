/- Texts Xz Ib9 Iu of the proof. -/
import Derived.Test.YtmafmebcgmegeaaGreatDoorFz20
import Derived.Test.YtmafmebcgmegeaaGreatDoorFz16
import Derived.Test.YtmafmebcgmegeaaGreatDoorFz3
import Derived.Test.YtmafmebcgmegeaaGreatDoorFz10
namespace Go.Proofs.YtmafmebcgmegeaaGreatDoor
open Go.RowKit Go.Sort
def setF (k : Nat) (p p0 : Int) (en qn : Nat) (zs : List Int) : Int := firstE [withinE p 1 100, if decide (0 < k) && decide (p ≤ p0) then 11 else 0, if ((en : Int) != (qn : Int)) = true then 2 else 0, firstInE (fun x => withinE x 0 100000000) zs]
def SetK (E : Int) (k : Nat) (p p0 : Int) (en qn : Nat) (zs ys : List Int) : Prop :=
  (setF k p p0 en qn zs ≠ 0 → E = setF k p p0 en qn zs) ∧
  (setF k p p0 en qn zs = 0 → (∀ i, 0 < i → i < en → zs.getD i 0 ≤ zs.getD (i - 1) 0) → (0 < k → ∀ i, i < en → ys.getD i 0 ≤ zs.getD i 0) → E = 0) ∧
  (setF k p p0 en qn zs = 0 → ¬ ((∀ i, 0 < i → i < en → zs.getD i 0 ≤ zs.getD (i - 1) 0) ∧ (0 < k → ∀ i, i < en → ys.getD i 0 ≤ zs.getD i 0)) → E = 21)
theorem setK_is {E : Int} {k en qn : Nat} {p p0 bp : Int} {zs ys be : List Int} (h : SetK E k p p0 en qn zs ys) (hz : zs.length = en) (h0 : k = 0 → bp = 0 ∧ ∀ i, be.getD i 0 = 0) (h1 : 0 < k → bp = p0 ∧ be = ys) : E = Bell.setE qn bp be (p, zs) := by
  obtain ⟨k1, k2, k3⟩ := h
  have e : Bell.firstE [Bell.inR p 1 100, if p ≤ bp then 11 else 0, if zs.length = qn then 0 else 2, Bell.eachE (fun n => Bell.inR n 0 100000000) zs] = setF k p p0 en qn zs := by
    rw [bfirst, beach, hz]; unfold setF
    have e2 : (if en = qn then (0 : Int) else 2) = if ((en : Int) != (qn : Int)) = true then 2 else 0 := by
      by_cases h : en = qn
      · subst h; simp
      · rw [if_neg h, if_pos (by simp; omega)]
    rw [e2]
    by_cases hw : withinE p 1 100 = 0
    · have hp := withinE_zero hw
      have e1 : (if p ≤ bp then (11 : Int) else 0) = if (decide (0 < k) && decide (p ≤ p0)) = true then 11 else 0 := by
        rcases Nat.eq_zero_or_pos k with hk | hk
        · subst hk; rw [if_neg (by have := (h0 rfl).1; omega)]
          rfl
        · rw [(h1 hk).1, decide_eq_true hk, Bool.true_and]
          by_cases hq : p ≤ p0
          · rw [if_pos hq, if_pos (decide_eq_true hq)]
          · rw [if_neg hq, if_neg (by simp; omega)]
      rw [e1]
      rfl
    · show firstE [withinE p 1 100, _, _, _] = firstE [withinE p 1 100, _, _, _]
      simp only [firstE, if_neg hw]
  unfold Bell.setE Bell.thenE
  show E = if Bell.firstE [Bell.inR p 1 100, if p ≤ bp then 11 else 0, if zs.length = qn then 0 else 2, Bell.eachE (fun n => Bell.inR n 0 100000000) zs] = 0 then (if Bell.ruleOk (zs.headD 0) be zs = true then 0 else 21) else Bell.firstE [Bell.inR p 1 100, if p ≤ bp then 11 else 0, if zs.length = qn then 0 else 2, Bell.eachE (fun n => Bell.inR n 0 100000000) zs]
  rw [e]
  by_cases hF : setF k p p0 en qn zs = 0
  · rw [if_pos hF]; have hr : firstInE (fun x => withinE x 0 100000000) zs = 0 := firstE_zero hF _ (by simp); have hrg := firstInE_rng hr
    have hiff : Bell.ruleOk (zs.headD 0) be zs = true ↔ ((∀ i, 0 < i → i < en → zs.getD i 0 ≤ zs.getD (i - 1) 0) ∧ (0 < k → ∀ i, i < en → ys.getD i 0 ≤ zs.getD i 0)) := by
      rw [rule_iff, hz]
      constructor
      · intro hh; refine ⟨fun i _ hi => (hh i hi).2, fun hk i hi => ?_⟩; have := (hh i hi).1
        rwa [(h1 hk).2] at this
      · rintro ⟨a1, a2⟩ i hi
        constructor
        · rcases Nat.eq_zero_or_pos k with hk | hk
          · rw [(h0 hk).2 i]; exact (hrg _ (Bell.getD_mem (by rw [hz]; exact hi))).1
          · rw [(h1 hk).2]; exact a2 hk i hi
        · rcases Nat.eq_zero_or_pos i with q | q
          · subst q; exact Int.le_refl _
          · exact a1 i q hi
    by_cases hru : Bell.ruleOk (zs.headD 0) be zs = true
    · rw [if_pos hru]; obtain ⟨a1, a2⟩ := hiff.1 hru; exact k2 hF a1 a2
    · rw [if_neg hru]; exact k3 hF (fun h => hru (hiff.2 h))
  · rw [if_neg hF]; exact k1 hF
set_option maxHeartbeats 4000000 in
set_option maxRecDepth 100000 in
theorem refSetting_full {cs : Array Value} (w : World) (gb go gn gc k q : Nat) (h12 : cs[12]? = some (.slice (some ⟨gb, go, none⟩) gn gc)) (qa : Option Addr) (qn qc : Nat) (h11 : cs[11]? = some (.slice qa qn qc)) (hk : k < gn) (hq : q = k - 1) (hgn : gn ≤ 7)
    (p p0 : Int) (ea fa : Option Addr) (en ec fn fc : Nat) (zs ys : List Int) (hs : SetAt w gb (go + k * 2) p ea en ec) (hf : SetAt w gb (go + q * 2) p0 fa fn fc) (hz : IntsAt w ea en zs) (hy : IntsAt w fa fn ys) (hen : en ≤ 140737488351232) (hfn : 0 < k → fn = qn) :
    Calls Tryz.prog 106 #[.agg cs, .int .i64 k] w fun e w' => ∃ E : Int, e = .returned (.int .i64 E) ∧ Hid (SetK E k p p0 en qn zs ys) ∧ Below w.heap.size w w' := by
  have HZ := Lib.hid hz; have HY := Lib.hid hy; have HFN := Lib.hid hfn; have HS := Lib.hid hs; have HF := Lib.hid hf; have HQ := Lib.hid hq; clear hz hy hfn hs hf
  go_enter Tryz.func106, Tryz.ntmps106
  go_upto_region 1 with fail
  obtain ⟨w1, hw1⟩ : ∃ W, W = w.alloc (.cells cs 26) := ⟨_, rfl⟩; rw [← hw1]; have T1 : Hid (Blk w1 w.heap.size 26 cs) := by show Blk _ _ _ _; rw [hw1]; exact Blk.new _ _ _
  have HB1 : Hid (Below w.heap.size w w1) := by show Below _ _ _; rw [hw1]; exact (Below.refl _ _).alloc (Nat.le_refl _) _
  obtain ⟨g, hg⟩ : ∃ g, g = w.heap.size := ⟨_, rfl⟩; rw [← hg] at T1 ⊢; have HGs := Lib.hid hg; clear hw1 hg; have kc : ∀ {x : Addr} {v : Value}, w.cell? x = some v → w1.cell? x = some v := fun {x v} hc => by rw [HB1.out.cell (World.block_lt_of_cell? _ _ hc)]; exact hc
  have t12 := (T1.out.cell 12).trans h12; have s0 := kc HS.out.1; have s1 := kc HS.out.2; have f0 := kc HF.out.1; have f1 := kc HF.out.2
  have hmx : ∀ ts t W, (Builtin.max_ ts t #[.int .i64 0, .int .i64 ((k : Int) - 1)]).run Tryz.prog W = .ok (.int .i64 (q : Int)) W := fun ts t W => by
    rw [run_max2']; congr 2; omega
  have wk : IntKind.i64.wrap ((k : Int) - 1) = (k : Int) - 1 := IntWalk.i64_in _ (by omega); have pl : (k : Int) < (gn : Int) := by omega
  have pl2 : (q : Int) < (gn : Int) := by omega
  clear kc hq; have hgl : g < w1.heap.size := lt_of_block T1.out; have hgbl : gb < w1.heap.size := World.block_lt_of_cell? _ _ s0; have e1 : (g = w1.heap.size) = False := by simp; omega
  have e2 : (g = w1.heap.size + 1) = False := by simp; omega
  have e3 : (gb = w1.heap.size) = False := by simp; omega
  have e4 : (gb = w1.heap.size + 1) = False := by simp; omega
  apply via3 (A := fun (W : World) (a : Nat) => Hid (Blk W a 145 #[.int .i64 p, .slice ea en ec])) (B := fun (W : World) (a : Nat) => Hid (Blk W a 145 #[.int .i64 p0, .slice fa fn fc])) (C := fun W => Hid (Below w1.heap.size w1 W))
  · intro key
    go_region
    all_goals
      first
      | (obtain ⟨w2, hw2⟩ : ∃ W, W = ((w1.alloc (.cells #[.int .i64 p, .slice ea en ec] 145)).alloc (.cells #[.int .i64 p0, .slice fa fn fc] 145)).drew := ⟨_, rfl⟩
         rw [← hw2]; have P2 : Hid (Blk w2 (w1.heap.size) 145 #[.int .i64 p, .slice ea en ec]) := by show Blk _ _ _ _; rw [hw2]; exact ((Blk.new _ _ _).alloc _).drew
         have F2 : Hid (Blk w2 (w1.heap.size + 1) 145 #[.int .i64 p0, .slice fa fn fc]) := by show Blk _ _ _ _; rw [hw2]; exact (Blk.at_size _ _ (by simp)).drew
         have hb2 : Hid (Below w1.heap.size w1 w2) := by show Below _ _ _; rw [hw2]; exact (((Below.refl _ _).alloc (Nat.le_refl _) _).alloc (by simp) _).drew
         obtain ⟨gP, hgP⟩ : ∃ x, x = w1.heap.size := ⟨_, rfl⟩; obtain ⟨gF, hgF⟩ : ∃ x, x = w1.heap.size + 1 := ⟨_, rfl⟩; rw [← hgP] at P2; rw [← hgF] at F2; rw [← hgF, ← hgP]; exact key w2 gP gF P2 F2 hb2)
      | (obtain ⟨w2, hw2⟩ : ∃ W, W = ((w1.alloc (.cells #[.int .i64 p0, .slice fa fn fc] 145)).alloc (.cells #[.int .i64 p, .slice ea en ec] 145)).drew := ⟨_, rfl⟩
         rw [← hw2]; have P2 : Hid (Blk w2 (w1.heap.size + 1) 145 #[.int .i64 p, .slice ea en ec]) := by show Blk _ _ _ _; rw [hw2]; exact (Blk.at_size _ _ (by simp)).drew
         have F2 : Hid (Blk w2 (w1.heap.size) 145 #[.int .i64 p0, .slice fa fn fc]) := by show Blk _ _ _ _; rw [hw2]; exact ((Blk.new _ _ _).alloc _).drew
         have hb2 : Hid (Below w1.heap.size w1 w2) := by show Below _ _ _; rw [hw2]; exact (((Below.refl _ _).alloc (Nat.le_refl _) _).alloc (by simp) _).drew
         obtain ⟨gP, hgP⟩ : ∃ x, x = w1.heap.size + 1 := ⟨_, rfl⟩; obtain ⟨gF, hgF⟩ : ∃ x, x = w1.heap.size := ⟨_, rfl⟩; rw [← hgP] at P2; rw [← hgF] at F2; rw [← hgP, ← hgF]; exact key w2 gP gF P2 F2 hb2)
  · intro w2 gP gF P2 F2 hb2; have hb2 := hb2.out; have T2 := Lib.hid (T1.out.below hb2); have HB2 := Lib.hid (HB1.out.trans (hb2.mono HB1.out.size)); have HZ2 := Lib.hid (HZ.out.keep HB2.out); have HY2 := Lib.hid (HY.out.keep HB2.out); clear hb2 t12 s0 s1 f0 f1 hmx wk pl pl2 hgl hgbl e1 e2 e3 e4; have a0 := fun d os => cell_regrown (P2.out.cell 0) d os
    have a1 := fun d os => cell_regrown (P2.out.cell 1) d os
    have b0 := fun d os => cell_regrown (F2.out.cell 0) d os
    have t11 := fun d os => cell_regrown ((T2.out.cell 11).trans h11) d os
    have cp := fun d os => Calls.regrown_of (Calls.grow_same (refPower_st p (grow (redrawn w2 d) os)))
    obtain ⟨x2, hx2⟩ : ∃ f : Int, f = if ((en : Int) != (qn : Int)) = true then 2 else 0 := ⟨_, rfl⟩; have c2 := fun d os => Calls.regrown_of (Calls.grow_same (refWhen_as (grow (redrawn w2 d) os) hx2))
    obtain ⟨R, hR⟩ : ∃ R, R = firstInE (fun x => withinE x 0 100000000) zs := ⟨_, rfl⟩; have cr := fun d os => Calls.regrown_of (Calls.grow_same (refRanges_any ea en ec zs 0 100000000 (grow (redrawn w2 d) os) (by omega) (HZ2.out.keep (below_regrown w2 d os))))
    rw [← hR] at cr; have HX2 := Lib.hid hx2; have HR := Lib.hid hR; clear hx2 hR; rcases Nat.eq_zero_or_pos k with hk0 | hk0
    · have g0 : decide (0 < k) = false := decide_eq_false (by omega); have g1 : decide ((0 : Int) < (k : Int)) = false := decide_eq_false (by omega); have HK0 := Lib.hid hk0; obtain ⟨x1, hx1⟩ : ∃ f : Int, f = if false = true then 11 else 0 := ⟨_, rfl⟩; have HX1 : Hid (x1 = if decide (0 < k) && decide (p ≤ p0) then 11 else 0) := by show _ = _; rw [hx1, g0]; simp
      have c1 := fun d os => Calls.regrown_of (Calls.grow_same (refWhen_as (grow (redrawn w2 d) os) hx1))
      clear hx1 hk0; go_wp2; refine wp_region_below_tail 24 (by kernel_rfl) (by kernel_rfl) ?_; simp only [List.take_succ_cons, List.take_zero, List.drop_succ_cons, List.drop_zero]
      iterate 2 (go_big_quiet_step (fail))
      go_big_quiet_step (exact cp _ _)
      iterate 9 (go_big_quiet_step (fail))
      go_big_quiet_step (exact c1 _ _)
      iterate 7 (go_big_quiet_step (fail))
      go_big_quiet_step (exact c2 _ _)
      iterate 2 (go_big_quiet_step (fail))
      go_big_quiet_step (exact cr _ _)
      refine wpQuiet_nil ?_; intro w3 hw'; obtain ⟨⟨dq, osq⟩, hw''⟩ := hw'; have hb3 := below_regrown w2 dq osq; rw [← hw''] at hb3; have HB3 := Lib.hid (HB2.out.trans (hb3.mono HB2.out.size)); have P3 := Lib.hid (P2.out.below hb3); have F3 := Lib.hid (F2.out.below hb3); clear hw'' a0 a1 b0 t11 cp c1 c2 cr hb3 HB2 P2 F2 T2 HZ2 HY2
      go_wp2_with fail
      refine (refFirst4 _ _ (withinE p 1 100) x1 x2 R _ (by go_simp) (by go_simp) (by go_simp) (by go_simp)).mono ?_; obtain ⟨F, hF⟩ : ∃ F, F = firstE [withinE p 1 100, x1, x2, R] := ⟨_, rfl⟩; rw [← hF]; have HF := Lib.hid hF; have HFQ : Hid (F = setF k p p0 en qn zs) := by show _ = _; rw [hF, HX1.out, HX2.out, HR.out]; rfl
      clear hF; rintro e w4 ⟨rfl, rfl⟩; obtain ⟨w5, hw5⟩ : ∃ W, W = w3.alloc (.cells #[.int .i64 (withinE p 1 100), .int .i64 x1, .int .i64 x2, .int .i64 R] 3) := ⟨_, rfl⟩; rw [← hw5]; have hb5 : Below w3.heap.size w3 w5 := by rw [hw5]; exact (Below.refl _ _).alloc (Nat.le_refl _) _
      have HB5 := Lib.hid (HB3.out.trans (hb5.mono HB3.out.size)); have P5 := Lib.hid (P3.out.below hb5); have F5 := Lib.hid (F3.out.below hb5); clear hw5 hb5 HB3 P3 F3
      by_cases hf0 : F = 0
      rotate_left
      · have h1 : (F != 0) = true := by simp [hf0]
        go_wp2
        go_ret
        exact ⟨F, rfl, ⟨fun _ => HFQ.out, fun h => absurd (HFQ.out.trans h) hf0, fun h => absurd (HFQ.out.trans h) hf0⟩, HB5.out⟩
      have h1 : (F != 0) = false := by simp [hf0]
      obtain ⟨z1, z2, z3, z4⟩ := firstE4_zero (HF.out.symm.trans hf0)
      have hq2 : en = qn := by
        have h9 := when_off (by omega) HX2.out z3; have h8 : (en : Int) = (qn : Int) := by simpa using h9
        omega
      have HEQ := Lib.hid hq2; have HFE : Hid (0 < k → fn = en) := fun h => (HFN.out h).trans hq2.symm
      have HW := Lib.hid z1; have HR0 := Lib.hid (HR.out.symm.trans z4); have HX0 : Hid ((decide (0 < k) && decide (p ≤ p0)) = false) := when_off (by omega) HX1.out z2; have HF0 : Hid (setF k p p0 en qn zs = 0) := by show _ = _; rw [← HFQ.out]; exact hf0
      clear z1 z2 z3 z4 hf0 hq2; have c5 := P5.out.cell 1; have d5 := F5.out.cell 1; simp only [List.getElem?_toArray, List.getElem?_cons_zero, List.getElem?_cons_succ] at c5 d5; go_wp2
      go_loopw [4, 8] (fun _ j wr => ∃ m : Nat, m ≤ en ∧ j = .int .i64 m ∧ Hid (∀ i, 0 < i → i < m → zs.getD i 0 ≤ zs.getD (i - 1) 0) ∧ Hid (0 < k → ∀ i, i < m → ys.getD i 0 ≤ zs.getD i 0) ∧ ∃ q', wr = w5.drewN q') (fun _ j _ => en - (intOf j).toNat)
      case atStart => exact ⟨0, Nat.zero_le _, rfl, (fun i _ hi => by omega), (fun _ i hi => by omega), 0, rfl⟩
      case round =>
        obtain ⟨m, hm, rfl, hd, ho, q', rfl⟩ := hrel
        by_cases hlt : m < en
        rotate_left
        · obtain rfl : m = en := by omega
          clear hlt; go_wp2; go_ret; exact ⟨0, rfl, ⟨fun h => absurd HF0.out h, fun _ _ _ => rfl, fun _ h => absurd ⟨hd.out, ho.out⟩ h⟩, below_drewN' HB5.out _⟩
        · obtain ⟨zb, zo, hze, hz⟩ := (HZ.out.keep HB5.out).2 (by omega); have HC := Lib.hid hz; have h0 := hz m hlt; have c6 := c5; rw [hze] at c6; obtain ⟨x, hx⟩ : ∃ x, x = zs.getD m 0 := ⟨_, rfl⟩; rw [← hx] at h0; have HX := Lib.hid hx; have pm : (m : Int) < (en : Int) := by omega
          clear hx hz hze c5; rcases Nat.eq_zero_or_pos m with rfl | hp
          · rw [Nat.add_zero] at h0; clear d5; go_wp2
            go_quiet (fail)
            go_wp2
            go_roundw
            case rel =>
              refine ⟨1, by omega, by go_num, (fun i hi0 hi => ?_), (fun h => absurd h (by have := HK0.out; omega)), _, rfl⟩
              · omega
            case measure => simp [intOf]; omega
          · have g2 : decide (0 < m) = true := decide_eq_true hp; have g3 : decide ((0 : Int) < (m : Int)) = true := decide_eq_true (by omega); obtain ⟨q2, hpm⟩ : ∃ q2, q2 = m - 1 := ⟨_, rfl⟩; have h2 := HC.out q2 (by omega); obtain ⟨y, hy⟩ : ∃ y, y = zs.getD q2 0 := ⟨_, rfl⟩; rw [← hy] at h2; have HY2 : Hid (y = zs.getD q2 0) := hy
            have hmx2 : ∀ ts t W, (Builtin.max_ ts t #[.int .i64 0, .int .i64 ((m : Int) - 1)]).run Tryz.prog W = .ok (.int .i64 (q2 : Int)) W := fun ts t W => by
              rw [run_max2']; congr 2; omega
            have pl : (q2 : Int) < (en : Int) := by omega
            have wj : IntKind.i64.wrap ((m : Int) - 1) = (m : Int) - 1 := IntWalk.i64_in _ (by omega); have HPM : Hid (m - 1 = q2) := hpm.symm; have hp0 : 0 < m := hp; clear hy hp hpm
            by_cases hxy : y < x
            · have t1 : decide (y < x) = true := decide_eq_true hxy; have HXB := Lib.hid hxy; clear hxy; go_wp2
              go_quiet (fail)
              go_wp2
              go_ret
              exact ⟨21, rfl, ⟨fun h => absurd HF0.out h, fun _ h _ => absurd (h m hp0 (by omega)) (by rw [HPM.out, ← HX.out, ← HY2.out]; have := HXB.out; omega), fun _ _ => rfl⟩, below_drewN' (below_drewN' HB5.out _) _⟩
            · have t1 : decide (y < x) = false := decide_eq_false hxy; have HXY := Lib.hid hxy; clear hxy; clear d5; go_wp2
              go_quiet (fail)
              go_wp2
              go_roundw
              case rel =>
                refine ⟨m + 1, by omega, by go_num, (fun i hi0 hi => ?_), (fun h => absurd h (by have := HK0.out; omega)), _, rfl⟩
                · by_cases him : i < m
                  · exact hd.out i hi0 him
                  · obtain rfl : i = m := by omega
                    have := HXY.out; rw [HPM.out, ← HX.out, ← HY2.out]; omega
              case measure => simp [intOf]; omega
    · have g0 : decide (0 < k) = true := decide_eq_true (by omega); have g1 : decide ((0 : Int) < (k : Int)) = true := decide_eq_true (by omega); have HK0 := Lib.hid hk0; obtain ⟨x1, hx1⟩ : ∃ f : Int, f = if decide (p ≤ p0) = true then 11 else 0 := ⟨_, rfl⟩; have HX1 : Hid (x1 = if decide (0 < k) && decide (p ≤ p0) then 11 else 0) := by show _ = _; rw [hx1, g0]; simp
      have c1 := fun d os => Calls.regrown_of (Calls.grow_same (refWhen_as (grow (redrawn w2 d) os) hx1))
      clear hx1 hk0; go_wp2; refine wp_region_below_tail 24 (by kernel_rfl) (by kernel_rfl) ?_; simp only [List.take_succ_cons, List.take_zero, List.drop_succ_cons, List.drop_zero]
      iterate 2 (go_big_quiet_step (fail))
      go_big_quiet_step (exact cp _ _)
      iterate 9 (go_big_quiet_step (fail))
      go_big_quiet_step (exact c1 _ _)
      iterate 7 (go_big_quiet_step (fail))
      go_big_quiet_step (exact c2 _ _)
      iterate 2 (go_big_quiet_step (fail))
      go_big_quiet_step (exact cr _ _)
      refine wpQuiet_nil ?_; intro w3 hw'; obtain ⟨⟨dq, osq⟩, hw''⟩ := hw'; have hb3 := below_regrown w2 dq osq; rw [← hw''] at hb3; have HB3 := Lib.hid (HB2.out.trans (hb3.mono HB2.out.size)); have P3 := Lib.hid (P2.out.below hb3); have F3 := Lib.hid (F2.out.below hb3); clear hw'' a0 a1 b0 t11 cp c1 c2 cr hb3 HB2 P2 F2 T2 HZ2 HY2
      go_wp2_with fail
      refine (refFirst4 _ _ (withinE p 1 100) x1 x2 R _ (by go_simp) (by go_simp) (by go_simp) (by go_simp)).mono ?_; obtain ⟨F, hF⟩ : ∃ F, F = firstE [withinE p 1 100, x1, x2, R] := ⟨_, rfl⟩; rw [← hF]; have HF := Lib.hid hF; have HFQ : Hid (F = setF k p p0 en qn zs) := by show _ = _; rw [hF, HX1.out, HX2.out, HR.out]; rfl
      clear hF; rintro e w4 ⟨rfl, rfl⟩; obtain ⟨w5, hw5⟩ : ∃ W, W = w3.alloc (.cells #[.int .i64 (withinE p 1 100), .int .i64 x1, .int .i64 x2, .int .i64 R] 3) := ⟨_, rfl⟩; rw [← hw5]; have hb5 : Below w3.heap.size w3 w5 := by rw [hw5]; exact (Below.refl _ _).alloc (Nat.le_refl _) _
      have HB5 := Lib.hid (HB3.out.trans (hb5.mono HB3.out.size)); have P5 := Lib.hid (P3.out.below hb5); have F5 := Lib.hid (F3.out.below hb5); clear hw5 hb5 HB3 P3 F3
      by_cases hf0 : F = 0
      rotate_left
      · have h1 : (F != 0) = true := by simp [hf0]
        go_wp2
        go_ret
        exact ⟨F, rfl, ⟨fun _ => HFQ.out, fun h => absurd (HFQ.out.trans h) hf0, fun h => absurd (HFQ.out.trans h) hf0⟩, HB5.out⟩
      have h1 : (F != 0) = false := by simp [hf0]
      obtain ⟨z1, z2, z3, z4⟩ := firstE4_zero (HF.out.symm.trans hf0)
      have hq2 : en = qn := by
        have h9 := when_off (by omega) HX2.out z3; have h8 : (en : Int) = (qn : Int) := by simpa using h9
        omega
      have HEQ := Lib.hid hq2; have HFE : Hid (0 < k → fn = en) := fun h => (HFN.out h).trans hq2.symm
      have HW := Lib.hid z1; have HR0 := Lib.hid (HR.out.symm.trans z4); have HX0 : Hid ((decide (0 < k) && decide (p ≤ p0)) = false) := when_off (by omega) HX1.out z2; have HF0 : Hid (setF k p p0 en qn zs = 0) := by show _ = _; rw [← HFQ.out]; exact hf0
      clear z1 z2 z3 z4 hf0 hq2; have c5 := P5.out.cell 1; have d5 := F5.out.cell 1; simp only [List.getElem?_toArray, List.getElem?_cons_zero, List.getElem?_cons_succ] at c5 d5; go_wp2
      go_loopw [4, 8] (fun _ j wr => ∃ m : Nat, m ≤ en ∧ j = .int .i64 m ∧ Hid (∀ i, 0 < i → i < m → zs.getD i 0 ≤ zs.getD (i - 1) 0) ∧ Hid (0 < k → ∀ i, i < m → ys.getD i 0 ≤ zs.getD i 0) ∧ ∃ q', wr = w5.drewN q') (fun _ j _ => en - (intOf j).toNat)
      case atStart => exact ⟨0, Nat.zero_le _, rfl, (fun i _ hi => by omega), (fun _ i hi => by omega), 0, rfl⟩
      case round =>
        obtain ⟨m, hm, rfl, hd, ho, q', rfl⟩ := hrel
        by_cases hlt : m < en
        rotate_left
        · obtain rfl : m = en := by omega
          clear hlt; go_wp2; go_ret; exact ⟨0, rfl, ⟨fun h => absurd HF0.out h, fun _ _ _ => rfl, fun _ h => absurd ⟨hd.out, ho.out⟩ h⟩, below_drewN' HB5.out _⟩
        · obtain ⟨zb, zo, hze, hz⟩ := (HZ.out.keep HB5.out).2 (by omega); have HC := Lib.hid hz; have h0 := hz m hlt; have c6 := c5; rw [hze] at c6; obtain ⟨x, hx⟩ : ∃ x, x = zs.getD m 0 := ⟨_, rfl⟩; rw [← hx] at h0; have HX := Lib.hid hx; have pm : (m : Int) < (en : Int) := by omega
          clear hx hz hze c5; rcases Nat.eq_zero_or_pos m with rfl | hp
          · rw [Nat.add_zero] at h0; have hfe := HFE.out HK0.out; obtain ⟨yb, yo, hye, hy⟩ := (HY.out.keep HB5.out).2 (by omega); have u0 := hy 0 (by omega); have d6 := d5; rw [hye] at d6; obtain ⟨u, hu⟩ : ∃ u, u = ys.getD 0 0 := ⟨_, rfl⟩; rw [← hu] at u0; have HU := Lib.hid hu; have pf : (0 : Int) < (fn : Int) := by omega
            clear hu hy hye d5 hfe; rw [Nat.add_zero] at u0
            by_cases hxu : x < u
            · have t2 : decide (x < u) = true := decide_eq_true hxu; have HXB := Lib.hid hxu; clear hxu; go_wp2
              go_quiet (fail)
              go_wp2
              go_ret
              exact ⟨21, rfl, ⟨fun h => absurd HF0.out h, fun _ _ h => absurd (h HK0.out 0 (by omega)) (by rw [← HX.out, ← HU.out]; have := HXB.out; omega), fun _ _ => rfl⟩, below_drewN' (below_drewN' HB5.out _) _⟩
            · have t2 : decide (x < u) = false := decide_eq_false hxu; have HXU := Lib.hid hxu; clear hxu; go_wp2
              go_quiet (fail)
              go_wp2
              go_roundw
              case rel =>
                refine ⟨1, by omega, by go_num, (fun i hi0 hi => ?_), (fun h i hi => ?_), _, rfl⟩
                · omega
                · by_cases him : i < 0
                  · exact ho.out h i him
                  · obtain rfl : i = 0 := by omega
                    have := HXU.out; rw [← HX.out, ← HU.out]; omega
              case measure => simp [intOf]; omega
          · have g2 : decide (0 < m) = true := decide_eq_true hp; have g3 : decide ((0 : Int) < (m : Int)) = true := decide_eq_true (by omega); obtain ⟨q2, hpm⟩ : ∃ q2, q2 = m - 1 := ⟨_, rfl⟩; have h2 := HC.out q2 (by omega); obtain ⟨y, hy⟩ : ∃ y, y = zs.getD q2 0 := ⟨_, rfl⟩; rw [← hy] at h2; have HY2 : Hid (y = zs.getD q2 0) := hy
            have hmx2 : ∀ ts t W, (Builtin.max_ ts t #[.int .i64 0, .int .i64 ((m : Int) - 1)]).run Tryz.prog W = .ok (.int .i64 (q2 : Int)) W := fun ts t W => by
              rw [run_max2']; congr 2; omega
            have pl : (q2 : Int) < (en : Int) := by omega
            have wj : IntKind.i64.wrap ((m : Int) - 1) = (m : Int) - 1 := IntWalk.i64_in _ (by omega); have HPM : Hid (m - 1 = q2) := hpm.symm; have hp0 : 0 < m := hp; clear hy hp hpm
            by_cases hxy : y < x
            · have t1 : decide (y < x) = true := decide_eq_true hxy; have HXB := Lib.hid hxy; clear hxy; go_wp2
              go_quiet (fail)
              go_wp2
              go_ret
              exact ⟨21, rfl, ⟨fun h => absurd HF0.out h, fun _ h _ => absurd (h m hp0 (by omega)) (by rw [HPM.out, ← HX.out, ← HY2.out]; have := HXB.out; omega), fun _ _ => rfl⟩, below_drewN' (below_drewN' HB5.out _) _⟩
            · have t1 : decide (y < x) = false := decide_eq_false hxy; have HXY := Lib.hid hxy; clear hxy; have hfe := HFE.out HK0.out; obtain ⟨yb, yo, hye, hy⟩ := (HY.out.keep HB5.out).2 (by omega); have u0 := hy m (by omega); have d6 := d5; rw [hye] at d6; obtain ⟨u, hu⟩ : ∃ u, u = ys.getD m 0 := ⟨_, rfl⟩; rw [← hu] at u0; have HU := Lib.hid hu; have pf : (m : Int) < (fn : Int) := by omega
              clear hu hy hye d5 hfe
              by_cases hxu : x < u
              · have t2 : decide (x < u) = true := decide_eq_true hxu; have HXB := Lib.hid hxu; clear hxu; go_wp2
                go_quiet (fail)
                go_wp2
                go_ret
                exact ⟨21, rfl, ⟨fun h => absurd HF0.out h, fun _ _ h => absurd (h HK0.out m (by omega)) (by rw [← HX.out, ← HU.out]; have := HXB.out; omega), fun _ _ => rfl⟩, below_drewN' (below_drewN' HB5.out _) _⟩
              · have t2 : decide (x < u) = false := decide_eq_false hxu; have HXU := Lib.hid hxu; clear hxu; go_wp2
                go_quiet (fail)
                go_wp2
                go_roundw
                case rel =>
                  refine ⟨m + 1, by omega, by go_num, (fun i hi0 hi => ?_), (fun h i hi => ?_), _, rfl⟩
                  · by_cases him : i < m
                    · exact hd.out i hi0 him
                    · obtain rfl : i = m := by omega
                      have := HXY.out; rw [HPM.out, ← HX.out, ← HY2.out]; omega
                  · by_cases him : i < m
                    · exact ho.out h i him
                    · obtain rfl : i = m := by omega
                      have := HXU.out; rw [← HX.out, ← HU.out]; omega
                case measure => simp [intOf]; omega
end Go.Proofs.YtmafmebcgmegeaaGreatDoor

namespace Go.Proofs.YtmafmebcgmegeaaGreatDoor
open Go.RowKit Go.Sort
theorem refFirst7 (g c : Nat) (x y z u v s t : Int) (w : World) (h0 : w.cell? ⟨g, 0, none⟩ = some (.int .i64 x)) (h1 : w.cell? ⟨g, 1, none⟩ = some (.int .i64 y)) (h2 : w.cell? ⟨g, 2, none⟩ = some (.int .i64 z)) (h3 : w.cell? ⟨g, 3, none⟩ = some (.int .i64 u)) (h4 : w.cell? ⟨g, 4, none⟩ = some (.int .i64 v)) (h5 : w.cell? ⟨g, 5, none⟩ = some (.int .i64 s)) (h6 : w.cell? ⟨g, 6, none⟩ = some (.int .i64 t)) :
    Calls Tryz.prog 99 #[.slice (some ⟨g, 0, none⟩) 7 c] w fun e w' => e = .returned (.int .i64 (firstE [x, y, z, u, v, s, t])) ∧ w = w' := by
  refine refFirst_any g 7 c [x, y, z, u, v, s, t] w rfl (by omega) ?_; intro i hi
  match i, hi with
  | 0, _ => exact h0
  | 1, _ => exact h1
  | 2, _ => exact h2
  | 3, _ => exact h3
  | 4, _ => exact h4
  | 5, _ => exact h5
  | 6, _ => exact h6
theorem own_empty (w : World) : OwnI (w.alloc (.cells #[] 3)) w.heap.size (.slice (some ⟨w.heap.size, 0, none⟩) 0 0) [] :=
  ⟨rfl, .inr ⟨w.heap.size, 0, #[], rfl, Nat.le_refl _, heap_alloc_new w _, Nat.le_refl _, by unfold maxLen; omega, rfl, rfl⟩⟩
end Go.Proofs.YtmafmebcgmegeaaGreatDoor
