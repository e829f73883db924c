/- Texts Xy of the proof. -/
import Derived.Test.YtmafmebcgmegeaaGreatDoorFz19
import Derived.Test.YtmafmebcgmegeaaGreatDoorFz16
namespace Go.Proofs.YtmafmebcgmegeaaGreatDoor
open Go.RowKit Go.Sort
theorem cnt_two {n : Nat} {k a b R : Int} (ha : a = if ((n : Int) == 0) = true then 12 else 0) (hb : b = if decide (k < (n : Int)) = true then 5 else 0) (hk : 0 ≤ k) : firstE [a, b, R] = firstE [cntI n k, R] := by
  unfold cntI atMostE
  by_cases h0 : n = 0
  · subst h0; have e : a = 12 := by rw [ha]; rfl
    rw [e, if_pos rfl]
    rfl
  · have e : a = 0 := by rw [ha, if_neg (by simp; omega)]
    rw [e, if_neg h0]
    by_cases h1 : k < (n : Int)
    · have e2 : b = 5 := by rw [hb, if_pos (decide_eq_true h1)]
      rw [e2, if_pos h1]
      rfl
    · have e2 : b = 0 := by rw [hb, if_neg (by simp; omega)]
      rw [e2, if_neg h1]
      rfl
set_option maxHeartbeats 1000000 in
set_option maxRecDepth 100000 in
theorem refShares_full (A : Option Addr) (n c : Nat) (l : List Int) (w : World) (hl : IntsAt w A n l) (hn9 : n ≤ 140737488351232) :
    Calls Tryz.prog 101 #[.slice A n c] w fun e w' => e = .returned (.int .i64 (Bell.shE l)) ∧ Below w.heap.size w w' := by
  have HL := Lib.hid hl; have HN := Lib.hid hl.1; clear hl; obtain ⟨R, hR⟩ : ∃ R, R = firstInE (fun x => withinE x 0 1000) l := ⟨_, rfl⟩; obtain ⟨Z, hZ⟩ : ∃ Z, Z = firstE [cntI n 8, R] := ⟨_, rfl⟩; obtain ⟨V, hV⟩ : ∃ V, V = Bell.shE l := ⟨_, rfl⟩
  have HV : Hid ((Z ≠ 0 → V = Z) ∧ (Z = 0 → V = if l.sum = 1000 then 0 else 1)) := by
    have hS : Bell.shE l = if Z = 0 then (if l.sum = 1000 then 0 else 1) else Z := by
      unfold Bell.shE Bell.thenE; rw [bfirst, beach, cntE_cnt, HN.out, hZ, hR]
      rfl
    exact ⟨fun h => by rw [hV, hS, if_neg h], fun h => by rw [hV, hS, if_pos h]⟩
  rw [← hV]; have HZ := Lib.hid hZ; have HR := Lib.hid hR; clear hR hZ hV
  go_enter Tryz.func101, Tryz.ntmps101
  go_wp2_with fail
  refine (refWhen_let _ _ _).mono ?_; rintro e w1 ⟨a, rfl, ha, rfl⟩
  go_wp2_with fail
  refine (refWhen_let _ _ _).mono ?_; rintro e w2 ⟨b, rfl, hb, rfl⟩
  go_wp2_with fail
  refine (refRanges_any A n c l 0 1000 w2 (by omega) HL.out).mono ?_; rw [← HR.out]; rintro e w3 ⟨rfl, rfl⟩
  go_wp2_with fail
  refine (refFirst3 _ _ a b R _ (by go_simp) (by go_simp) (by go_simp)).mono ?_; obtain ⟨E, hE⟩ : ∃ E, E = firstE [a, b, R] := ⟨_, rfl⟩; rw [← hE]; have HE := Lib.hid hE; clear hE; rintro e w4 ⟨rfl, rfl⟩; obtain ⟨w5, hw5⟩ : ∃ W, W = w3.alloc (.cells #[.int .i64 a, .int .i64 b, .int .i64 R] 3) := ⟨_, rfl⟩; rw [← hw5]; have hbl : Below w3.heap.size w3 w5 := by rw [hw5]; exact (Below.refl _ _).alloc (Nat.le_refl _) _
  have H5 := Lib.hid (HL.out.keep hbl); have HB := Lib.hid hbl; clear hw5 hbl; have HEZ : Hid (E = Z) := by show _ = _; rw [HE.out, HZ.out]; exact cnt_two ha.out hb.out (by omega)
  by_cases he : E = 0
  · have HV2 := Lib.hid (HV.out.2 (HEZ.out.symm.trans he)); have h1 : (E != 0) = false := by simp [he]
    obtain ⟨z1, z2, z3⟩ := firstE3_zero (HE.out.symm.trans he); have y1 := when_off (by omega) ha.out z1; have y2 := when_off (by omega) hb.out z2
    have n0 : 0 < n := by
      have : ¬ (n : Int) = 0 := by simpa using y1
      omega
    have n8 : n ≤ 8 := by have := of_decide_eq_false y2; omega
    have HG := Lib.hid (firstIn_rng (HR.out.symm.trans z3)); obtain ⟨bb, off, rfl, hc⟩ := H5.out.2 n0; have HC := Lib.hid hc; clear hc he z1 z2 z3 y1 y2 ha hb HE HR HL HEZ HV HZ; go_wp2
    go_loop [4, 5] (fun s k => ∃ j : Nat, j ≤ n ∧ k = .int .i64 j ∧ s = .int .i64 (sumL (l.take j))) (fun _ k => n - (intOf k).toNat)
    case atStart => exact ⟨0, Nat.zero_le _, rfl, rfl⟩
    case round =>
      obtain ⟨j, hj, rfl, rfl⟩ := hrel; have hv : ∀ i, i < l.length → 0 ≤ l.getD i 0 ∧ l.getD i 0 ≤ 100000000000000 := fun i hi => by have := HG.out _ (Bell.getD_mem hi); omega
      by_cases hlt : j < n
      · have h0 := HC.out j hlt; have b1 := sumL_bd l hv j (by rw [HN.out]; omega); have HS := Lib.hid (sumL_succ l j (by rw [HN.out]; exact hlt)); have b4 := hv j (by rw [HN.out]; exact hlt); obtain ⟨x, hx⟩ : ∃ x, x = l.getD j 0 := ⟨_, rfl⟩; obtain ⟨s, hs⟩ : ∃ s, s = sumL (l.take j) := ⟨_, rfl⟩; rw [← hx] at h0 b4 HS; rw [← hs] at b1 HS ⊢; obtain ⟨b1, b2⟩ := b1; have b5 : s ≤ 1000000000000000 := by omega
        clear hx hs hv b2; go_wp2
        go_round
        case rel => exact ⟨j + 1, by omega, by go_num, by rw [HS.out]⟩
        case measure => simp [intOf]; omega
      · obtain ⟨s, hs⟩ : ∃ s, s = sumL (l.take j) := ⟨_, rfl⟩
        have HS : Hid (s = sumL l) := by
          show _ = _
          rw [hs, List.take_of_length_le (by rw [HN.out]; omega)]
        rw [← hs]; clear hs hv
        go_wp2_with fail
        refine (refWhen_let _ _ _).mono ?_; rintro e w6 ⟨d, rfl, hd, rfl⟩; go_wp2; go_ret
        have hr : V = d := by
          rw [HV2.out, ← sumL_sum, ← HS.out, hd.out]
          by_cases h : s = 1000
          · simp [h]
          · simp [h]
        first | exact ⟨ret_int hr.symm, HB.out⟩ | exact ⟨ret_int rfl, HB.out⟩
  · have h1 : (E != 0) = true := by simp [he]
    have hr : V = E := by rw [HEZ.out]; exact HV.out.1 (by rw [← HEZ.out]; exact he)
    go_wp2
    go_ret
    first | exact ⟨ret_int hr.symm, HB.out⟩ | exact ⟨ret_int rfl, HB.out⟩
set_option maxHeartbeats 1000000 in
set_option maxRecDepth 100000 in
theorem refSquares_full (A : Option Addr) (n c : Nat) (l : List Int) (w : World) (hl : IntsAt w A n l) (hn9 : n ≤ 140737488351232) :
    Calls Tryz.prog 104 #[.slice A n c] w fun e w' => e = .returned (.int .i64 (Bell.sqE l)) ∧ Below w.heap.size w w' := by
  have HL := Lib.hid hl; have HN := Lib.hid hl.1; clear hl; obtain ⟨R, hR⟩ : ∃ R, R = firstInE (fun x => withinE x 0 100000000000) l := ⟨_, rfl⟩; obtain ⟨Z, hZ⟩ : ∃ Z, Z = firstE [cntI n 8, R] := ⟨_, rfl⟩; obtain ⟨V, hV⟩ : ∃ V, V = Bell.sqE l := ⟨_, rfl⟩
  have HV : Hid ((Z ≠ 0 → V = Z) ∧ (Z = 0 → V = if l.headD 0 = 0 ∧ Bell.asc (l.headD 0) l.tail then 0 else 11)) := by
    have hS : Bell.sqE l = if Z = 0 then (if l.headD 0 = 0 ∧ Bell.asc (l.headD 0) l.tail then 0 else 11) else Z := by
      unfold Bell.sqE Bell.thenE; rw [bfirst, beach, cntE_cnt, HN.out, hZ, hR]
      rfl
    exact ⟨fun h => by rw [hV, hS, if_neg h], fun h => by rw [hV, hS, if_pos h]⟩
  rw [← hV]; have HZ := Lib.hid hZ; have HR := Lib.hid hR; clear hR hZ hV
  go_enter Tryz.func104, Tryz.ntmps104
  go_wp2_with fail
  refine (refWhen_let _ _ _).mono ?_; rintro e w1 ⟨a, rfl, ha, rfl⟩
  go_wp2_with fail
  refine (refWhen_let _ _ _).mono ?_; rintro e w2 ⟨b, rfl, hb, rfl⟩
  go_wp2_with fail
  refine (refRanges_any A n c l 0 100000000000 w2 (by omega) HL.out).mono ?_; rw [← HR.out]; rintro e w3 ⟨rfl, rfl⟩
  go_wp2_with fail
  refine (refFirst3 _ _ a b R _ (by go_simp) (by go_simp) (by go_simp)).mono ?_; obtain ⟨E, hE⟩ : ∃ E, E = firstE [a, b, R] := ⟨_, rfl⟩; rw [← hE]; have HE := Lib.hid hE; clear hE; rintro e w4 ⟨rfl, rfl⟩; obtain ⟨w5, hw5⟩ : ∃ W, W = w3.alloc (.cells #[.int .i64 a, .int .i64 b, .int .i64 R] 3) := ⟨_, rfl⟩; rw [← hw5]; have hbl : Below w3.heap.size w3 w5 := by rw [hw5]; exact (Below.refl _ _).alloc (Nat.le_refl _) _
  have H5 := Lib.hid (HL.out.keep hbl); have HB := Lib.hid hbl; clear hw5 hbl; have HEZ : Hid (E = Z) := by show _ = _; rw [HE.out, HZ.out]; exact cnt_two ha.out hb.out (by omega)
  by_cases he : E = 0
  · have HV2 := Lib.hid (HV.out.2 (HEZ.out.symm.trans he)); have h1 : (E != 0) = false := by simp [he]
    obtain ⟨z1, z2, z3⟩ := firstE3_zero (HE.out.symm.trans he); have y1 := when_off (by omega) ha.out z1; have y2 := when_off (by omega) hb.out z2
    have n0 : 0 < n := by
      have : ¬ (n : Int) = 0 := by simpa using y1
      omega
    have n8 : n ≤ 8 := by have := of_decide_eq_false y2; omega
    have HG := Lib.hid (firstIn_rng (HR.out.symm.trans z3))
    have HV3 : Hid (((l.getD 0 0 = 0 ∧ ∀ i, i + 1 < l.length → l.getD i 0 < l.getD (i + 1) 0) → V = 0) ∧ (¬ (l.getD 0 0 = 0 ∧ ∀ i, i + 1 < l.length → l.getD i 0 < l.getD (i + 1) 0) → V = 11)) := by
      refine ⟨fun h => ?_, fun h => ?_⟩
      · rw [HV2.out, if_pos ((sqOrd (by rw [HN.out]; exact n0)).2 h)]
      · rw [HV2.out, if_neg (fun h2 => h ((sqOrd (by rw [HN.out]; exact n0)).1 h2))]
    clear HV2; obtain ⟨bb, off, rfl, hc⟩ := H5.out.2 n0; have HC := Lib.hid hc; clear hc he z1 z2 z3 y1 y2 ha hb HE HR HL HEZ HV HZ; go_wp2
    go_loopw [2, 4] (fun _ k wr => ∃ j : Nat, j ≤ n ∧ k = .int .i64 j ∧ Hid (0 < j → l.getD 0 0 = 0) ∧ Hid (∀ i, i + 1 < j → l.getD i 0 < l.getD (i + 1) 0) ∧ ∃ q, wr = w5.drewN q) (fun _ k _ => n - (intOf k).toNat)
    case atStart => exact ⟨0, Nat.zero_le _, rfl, fun h => absurd h (by omega), (fun i hi => by omega), 0, rfl⟩
    case round =>
      obtain ⟨j, hj, rfl, hz, hu, q, rfl⟩ := hrel
      by_cases hlt : j < n
      · have h0 := HC.out j hlt; obtain ⟨x, hx⟩ : ∃ x, x = l.getD j 0 := ⟨_, rfl⟩; rw [← hx] at h0; have HX := Lib.hid hx; clear hx; rcases Nat.eq_zero_or_pos j with rfl | hp
        · rw [Nat.add_zero] at h0; have pl : (0 : Int) < (n : Int) := by omega
          by_cases hx0 : x = 0
          · have t1 : (x != 0) = false := by simp [hx0]
            have HX0 := Lib.hid hx0; clear hx0; go_wp2
            go_quiet (fail)
            go_wp2
            go_roundw
            case rel => exact ⟨1, by omega, rfl, (fun _ => by rw [← HX.out]; exact HX0.out), (fun i hi => by omega), _, rfl⟩
            case measure => simp [intOf]; omega
          · have t1 : (x != 0) = true := by simp [hx0]
            have hr : V = 11 := HV3.out.2 (fun h => hx0 (HX.out.trans h.1)); clear hx0; go_wp2
            go_quiet (fail)
            go_wp2
            go_ret
            first | exact ⟨ret_int hr.symm, below_drewN' (below_drewN' HB.out _) _⟩ | exact ⟨ret_int rfl, below_drewN' (below_drewN' HB.out _) _⟩
        · have g0 : ((j : Int) == 0) = false := by simp; omega
          have g1 : decide (0 < j) = true := decide_eq_true (by omega); obtain ⟨p, hpj⟩ : ∃ p, p + 1 = j := ⟨j - 1, by omega⟩; have h1 := HC.out p (by omega); obtain ⟨y, hy⟩ : ∃ y, y = l.getD p 0 := ⟨_, rfl⟩; rw [← hy] at h1; have HY := Lib.hid hy
          have hmx : ∀ ts t W, (Builtin.max_ ts t #[.int .i64 0, .int .i64 ((j : Int) - 1)]).run Tryz.prog W = .ok (.int .i64 (p : Int)) W := fun ts t W => by
            rw [run_max2']; congr 2; omega
          have pl : (p : Int) < (n : Int) := by omega
          have pl2 : (j : Int) < (n : Int) := by omega
          have wj : IntKind.i64.wrap ((j : Int) - 1) = (j : Int) - 1 := IntWalk.i64_in _ (by omega); have HPJ := Lib.hid hpj; clear hy hp hpj
          by_cases hxy : x ≤ y
          · have t1 : decide (x ≤ y) = true := decide_eq_true hxy
            have hr : V = 11 := HV3.out.2 (fun h => by
              have h2 := h.2 p (by rw [HPJ.out, HN.out]; exact hlt); rw [HPJ.out, ← HX.out, ← HY.out] at h2
              omega)
            clear hxy; go_wp2
            go_quiet (fail)
            go_wp2
            go_ret
            first | exact ⟨ret_int hr.symm, below_drewN' (below_drewN' HB.out _) _⟩ | exact ⟨ret_int rfl, below_drewN' (below_drewN' HB.out _) _⟩
          · have t1 : decide (x ≤ y) = false := decide_eq_false hxy; have HXY := Lib.hid hxy; clear hxy; go_wp2
            go_quiet (fail)
            go_wp2
            go_roundw
            case rel =>
              have hpj := HPJ.out; refine ⟨j + 1, by omega, by go_num, (fun _ => hz.out (by omega)), (fun i hi => ?_), _, rfl⟩
              by_cases hip : i + 1 < j
              · exact hu.out i hip
              · obtain rfl : i = p := by omega
                rw [hpj]; have := HXY.out; rw [← HX.out, ← HY.out]; omega
            case measure => simp [intOf]; omega
      · obtain rfl : j = n := by omega
        go_wp2
        go_ret
        have hr : V = 0 := HV3.out.1 ⟨hz.out n0, fun i hi => hu.out i (by rw [← HN.out]; exact hi)⟩
        first | exact ⟨ret_int hr.symm, below_drewN' HB.out _⟩ | exact ⟨ret_int rfl, below_drewN' HB.out _⟩
  · have h1 : (E != 0) = true := by simp [he]
    have hr : V = E := by rw [HEZ.out]; exact HV.out.1 (by rw [← HEZ.out]; exact he)
    go_wp2
    go_ret
    first | exact ⟨ret_int hr.symm, HB.out⟩ | exact ⟨ret_int rfl, HB.out⟩
end Go.Proofs.YtmafmebcgmegeaaGreatDoor
