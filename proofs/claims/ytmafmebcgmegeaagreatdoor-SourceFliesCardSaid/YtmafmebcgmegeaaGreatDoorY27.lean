/- Texts Q4 Q5 of the proof. -/
import Derived.Test.YtmafmebcgmegeaaGreatDoorY22
namespace Go.Proofs.YtmafmebcgmegeaaGreatDoor
open Go.RowKit Go.Sort
set_option maxHeartbeats 1000000 in
set_option maxRecDepth 100000 in
theorem checkPath_any (A : Option Addr) (n c : Nat) (l : List Bell.Pt) (w : World) (hl : PtsAt w A n l) (hn : n ≤ 140737488351232) :
    Calls Tryz.prog 127 #[.slice A n c] w fun e w' => e = .returned (.int .i64 (pathE l)) ∧ Below w.heap.size w w' := by
  have HL := Lib.hid hl
  have HN := Lib.hid hl.1
  obtain ⟨V, hV⟩ : ∃ V, V = pathE l := ⟨_, rfl⟩
  have HV : Hid (V = andE (lengthE n 16) (firstR (ptAtE l) n)) := by show _ = _; rw [hV, ← hl.1]; rfl
  rw [← hV]
  clear hl hV
  go_enter Tryz.func127, Tryz.ntmps127
  go_wp2_with fail
  refine (length_pt A n c 16 w).mono ?_
  rintro e w' ⟨rfl, rfl⟩
  obtain ⟨E, hE⟩ : ∃ E, E = lengthE n 16 := ⟨_, rfl⟩
  rw [← hE] at HV ⊢
  clear hE
  by_cases h0 : E = 0
  case neg =>
    have hr : V = E := by rw [HV.out, andE_n h0]
    go_wp2
    go_ret
    exact ⟨ret_int hr.symm, Below.refl _ _⟩
  replace HV : Hid (V = firstR (ptAtE l) n) := by show _ = _; rw [HV.out, andE_0 h0]
  subst h0
  go_wp2
  go_loopw [4, 5, 6, 14] (fun _ _ _ k wr => ∃ j : Nat, j ≤ n ∧ k = .int .i64 j ∧ Hid (∀ i, i < j → ptAtE l i = 0) ∧ Hid (Below w'.heap.size w' wr)) (fun _ _ _ k _ => n - (intOf k).toNat)
  case atStart => exact ⟨0, Nat.zero_le _, rfl, (fun i hi => by omega), Below.refl _ _⟩
  case round =>
    obtain ⟨j, hj, rfl, hz, hb⟩ := hrel
    by_cases hlt : j < n
    · have HLr := Lib.hid (HL.out.keep hb.out)
      obtain ⟨b, o, rfl, hc⟩ := HLr.out.2 (by omega)
      obtain ⟨c1, c2⟩ := hc j hlt
      have HJ : Hid (ptAtE l j = andE (firstE [withinE (Bell.ptAt l j).x (-100000) 100000, withinE (Bell.ptAt l j).y (-100000) 100000]) (if 0 < j ∧ (Bell.ptAt l j).x = (Bell.ptAt l (j - 1)).x ∧ (Bell.ptAt l j).y = (Bell.ptAt l (j - 1)).y then 9 else 0)) := rfl
      obtain ⟨x, hx⟩ : ∃ x, x = (Bell.ptAt l j).x := ⟨_, rfl⟩
      obtain ⟨y, hy⟩ : ∃ y, y = (Bell.ptAt l j).y := ⟨_, rfl⟩
      rw [← hx] at c1 HJ
      rw [← hy] at c2 HJ
      clear hc hx hy
      go_upto_region 7 with fail
      have HB := hb
      clear hb
      obtain ⟨wa, hwa⟩ : ∃ W, W = (wr.alloc (.cells #[.int .i64 x, .int .i64 y] 30)) := ⟨_, rfl⟩
      rw [← hwa]
      have P : Hid (Blk wa (wr.heap.size) 30 #[.int .i64 x, .int .i64 y]) := by show Blk _ _ _ _; rw [hwa]; exact Blk.new _ _ _
      have hba : Below wr.heap.size wr wa := by rw [hwa]; exact ((Below.refl _ _).alloc (Nat.le_refl _) _)
      obtain ⟨gp, hgp⟩ : ∃ g, g = wr.heap.size := ⟨_, rfl⟩
      have HGwa : Hid (gp = wr.heap.size) := hgp
      rw [← hgp] at P
      try rw [← hgp]
      clear hwa hgp
      replace HB := Lib.hid (HB.out.trans (hba.mono HB.out.size))
      clear hba
      clear c1 c2
      have a0 := fun d os => cell_regrown (P.out.cell 0) d os
      have a1 := fun d os => cell_regrown (P.out.cell 1) d os
      have f0 := fun nd ns => Calls.regrown_of (Calls.grow_same (srcFar_st x (grow (redrawn wa nd) ns)))
      have f1 := fun nd ns => Calls.regrown_of (Calls.grow_same (srcFar_st y (grow (redrawn wa nd) ns)))
      refine wp_region_below_tail 6 (by kernel_rfl) (by kernel_rfl) ?_
      simp only [List.take_succ_cons, List.take_zero, List.drop_succ_cons, List.drop_zero]
      iterate 2 (quiet_step (fail))
      quiet_step (exact f0 _ _)
      iterate 2 (quiet_step (fail))
      quiet_step (exact f1 _ _)
      refine wpQuiet_nil ?_
      intro wb hq1
      obtain ⟨⟨dq, osq⟩, hq2⟩ := hq1
      have hbb := below_regrown wa dq osq
      rw [← hq2] at hbb
      clear hq2
      replace HB := Lib.hid (HB.out.trans (hbb.mono HB.out.size))
      replace P := Lib.hid (P.out.below hbb)
      clear hbb
      clear a0 a1 f0 f1
      go_wp2_with fail
      obtain ⟨wc, hwc⟩ : ∃ W, W = (wb.alloc (.cells #[.int .i64 (withinE x (-100000) 100000), .int .i64 (withinE y (-100000) 100000)] 37)) := ⟨_, rfl⟩
      rw [← hwc]
      have ES : Hid (Blk wc (wb.heap.size) 37 #[.int .i64 (withinE x (-100000) 100000), .int .i64 (withinE y (-100000) 100000)]) := by show Blk _ _ _ _; rw [hwc]; exact Blk.new _ _ _
      have hbc : Below wb.heap.size wb wc := by rw [hwc]; exact ((Below.refl _ _).alloc (Nat.le_refl _) _)
      obtain ⟨ge, hge⟩ : ∃ g, g = wb.heap.size := ⟨_, rfl⟩
      have HGwc : Hid (ge = wb.heap.size) := hge
      rw [← hge] at ES
      try rw [← hge]
      clear hwc hge
      replace HB := Lib.hid (HB.out.trans (hbc.mono HB.out.size))
      replace P := Lib.hid (P.out.below hbc)
      clear hbc
      refine (first2 _ _ (withinE x (-100000) 100000) (withinE y (-100000) 100000) _ (ES.out.cell 0) (ES.out.cell 1)).mono ?_
      rintro e w2 ⟨rfl, rfl⟩
      clear ES
      obtain ⟨F, hF⟩ : ∃ F, F = firstE [withinE x (-100000) 100000, withinE y (-100000) 100000] := ⟨_, rfl⟩
      rw [← hF] at HJ ⊢
      clear hF
      by_cases hF0 : F = 0
      case neg =>
        have hr : Hid (V = F) := by
          show _ = _
          rw [HV.out, firstR_hit hlt hz.out (by rw [HJ.out, andE_n hF0]; exact hF0), HJ.out, andE_n hF0]
        go_wp2
        go_ret
        exact ⟨ret_int hr.out.symm, HB.out⟩
      subst hF0
      have HLc := Lib.hid (HL.out.keep HB.out)
      have PP := P.out
      have pc0 := PP.cell 0; have pf0 := PP.frozen 0; have pc1 := PP.cell 1; have pf1 := PP.frozen 1
      simp only [List.getElem?_toArray, List.getElem?_cons_zero, List.getElem?_cons_succ] at pc0 pc1
      clear PP
      rcases Nat.eq_zero_or_pos j with hj0 | hj0
      · subst hj0
        have hr : Hid (ptAtE l 0 = 0) := by show _ = _; rw [HJ.out]; simp [andE]
        go_wp2
        go_region
        go_wp2
        go_roundw
        case rel => exact ⟨1, by omega, by go_num, (fun i hi => by obtain rfl : i = 0 := (by omega); exact hr.out), HB.out.drew⟩
        case measure => simp [intOf]; omega
      · obtain ⟨q, rfl⟩ : ∃ q, j = q + 1 := ⟨j - 1, by omega⟩
        rw [Nat.add_sub_cancel] at HJ
        obtain ⟨b', o', e', hc⟩ := HLc.out.2 (by omega)
        cases e'
        obtain ⟨d1, d2⟩ := hc q (by omega)
        obtain ⟨u, hu⟩ : ∃ u, u = (Bell.ptAt l q).x := ⟨_, rfl⟩
        obtain ⟨v, hv⟩ : ∃ v, v = (Bell.ptAt l q).y := ⟨_, rfl⟩
        rw [← hu] at d1 HJ
        rw [← hv] at d2 HJ
        clear hc hu hv
        by_cases hxu : x = u
        · subst hxu
          by_cases hyv : y = v
          · subst hyv
            have hr : Hid (V = 9) := by
              show _ = _
              have h9 : ptAtE l (q + 1) = 9 := by rw [HJ.out, andE_0 rfl, if_pos ⟨by omega, rfl, rfl⟩]
              rw [HV.out, firstR_hit hlt hz.out (by rw [h9]; decide), h9]
            go_wp2
            go_region
            go_wp2
            go_ret
            exact ⟨ret_int hr.out.symm, HB.out.drew⟩
          · skip
            have hr : Hid (ptAtE l (q + 1) = 0) := by show _ = _; rw [HJ.out, andE_0 rfl, if_neg (fun h => hyv h.2.2)]
            go_wp2
            go_region
            go_wp2
            go_roundw
            case rel =>
              exact ⟨q + 1 + 1, by omega, by go_num, (fun i hi => by
                rcases Nat.lt_or_ge i (q + 1) with h | h
                · exact hz.out i h
                · obtain rfl : i = q + 1 := (by omega)
                  exact hr.out), HB.out.drew⟩
            case measure => simp [intOf]; omega
        · skip
          have hr : Hid (ptAtE l (q + 1) = 0) := by show _ = _; rw [HJ.out, andE_0 rfl, if_neg (fun h => hxu h.2.1)]
          go_wp2
          go_region
          go_wp2
          go_roundw
          case rel =>
            exact ⟨q + 1 + 1, by omega, by go_num, (fun i hi => by
              rcases Nat.lt_or_ge i (q + 1) with h | h
              · exact hz.out i h
              · obtain rfl : i = q + 1 := (by omega)
                exact hr.out), HB.out.drew⟩
          case measure => simp [intOf]; omega
    · have hr : Hid (V = 0) := by
        show _ = _
        rw [HV.out]
        exact firstR_miss fun i hi => hz.out i (by omega)
      go_wp2
      go_ret
      exact ⟨ret_int hr.out.symm, hb.out⟩
end Go.Proofs.YtmafmebcgmegeaaGreatDoor

namespace Go.Proofs.YtmafmebcgmegeaaGreatDoor
open Go.RowKit Go.Sort
set_option maxHeartbeats 1000000 in
set_option maxRecDepth 100000 in
theorem CheckProcedure_any (A : Option Addr) (n c : Nat) (l : List Bell.Sp) (w : World) (hl : SpsAt w A n l) (hn : n ≤ 140737488351232) :
    Calls Tryz.prog 54 #[.slice A n c] w fun e w' => e = .returned (.int .i64 (procE l)) ∧ Below w.heap.size w w' := by
  have HL := Lib.hid hl
  have HN := Lib.hid hl.1
  obtain ⟨V, hV⟩ : ∃ V, V = procE l := ⟨_, rfl⟩
  have HV : Hid (V = andE (lengthE n 8) (firstR (spAtE l) n)) := by show _ = _; rw [hV, ← hl.1]; rfl
  rw [← hV]
  clear hl hV
  go_enter Tryz.func54, Tryz.ntmps54
  go_wp2_with fail
  refine (length_step A n c 8 w).mono ?_
  rintro e w' ⟨rfl, rfl⟩
  obtain ⟨E, hE⟩ : ∃ E, E = lengthE n 8 := ⟨_, rfl⟩
  rw [← hE] at HV ⊢
  clear hE
  by_cases h0 : E = 0
  case neg =>
    have hr : V = E := by rw [HV.out, andE_n h0]
    go_wp2
    go_ret
    exact ⟨ret_int hr.symm, Below.refl _ _⟩
  replace HV : Hid (V = firstR (spAtE l) n) := by show _ = _; rw [HV.out, andE_0 h0]
  subst h0
  go_wp2
  go_loopw [4, 5, 6, 14] (fun _ _ _ k wr => ∃ j : Nat, j ≤ n ∧ k = .int .i64 j ∧ Hid (∀ i, i < j → spAtE l i = 0) ∧ Hid (Below w'.heap.size w' wr)) (fun _ _ _ k _ => n - (intOf k).toNat)
  case atStart => exact ⟨0, Nat.zero_le _, rfl, (fun i hi => by omega), Below.refl _ _⟩
  case round =>
    obtain ⟨j, hj, rfl, hz, hb⟩ := hrel
    by_cases hlt : j < n
    · have HLr := Lib.hid (HL.out.keep hb.out)
      obtain ⟨b, o, rfl, hc⟩ := HLr.out.2 (by omega)
      obtain ⟨c1, c2, c3⟩ := hc j hlt
      have HJ : Hid (spAtE l j = andE (stepE (Bell.spAt l j)) (if (j = 0 ∧ (Bell.spAt l j).d ≠ 0) ∨ (0 < j ∧ (Bell.spAt l j).d ≤ (Bell.spAt l (j - 1)).d) then 11 else 0)) := rfl
      obtain ⟨S, hS⟩ : ∃ S, S = Bell.spAt l j := ⟨_, rfl⟩
      rw [← hS] at c1 c2 c3 HJ
      clear hc hS
      have HB := hb
      clear hb
      have HS0 : Hid (spV S = #[.int .i64 S.d, .int .i64 S.h, .int .i64 S.p]) := rfl
      go_wp2_with fail
      obtain ⟨wa, hwa⟩ : ∃ W, W = (wr.alloc (.cells #[.int .i64 S.d, .int .i64 S.h, .int .i64 S.p] 166)) := ⟨_, rfl⟩
      rw [← hwa]
      have P : Hid (Blk wa (wr.heap.size) 166 #[.int .i64 S.d, .int .i64 S.h, .int .i64 S.p]) := by show Blk _ _ _ _; rw [hwa]; exact Blk.new _ _ _
      have hba : Below wr.heap.size wr wa := by rw [hwa]; exact ((Below.refl _ _).alloc (Nat.le_refl _) _)
      obtain ⟨gp, hgp⟩ : ∃ g, g = wr.heap.size := ⟨_, rfl⟩
      have HGwa : Hid (gp = wr.heap.size) := hgp
      rw [← hgp] at P
      try rw [← hgp]
      clear hwa hgp
      replace HB := Lib.hid (HB.out.trans (hba.mono HB.out.size))
      clear hba
      clear c1 c2 c3
      refine (stepCheck_any S wa).mono ?_
      rintro e wb ⟨rfl, hbb⟩
      replace HB := Lib.hid (HB.out.trans (hbb.mono HB.out.size))
      replace P := Lib.hid (P.out.below hbb)
      clear hbb
      obtain ⟨F, hF⟩ : ∃ F, F = stepE S := ⟨_, rfl⟩
      rw [← hF] at HJ ⊢
      clear hF HS0
      by_cases hF0 : F = 0
      case neg =>
        have hr : Hid (V = F) := by
          show _ = _
          rw [HV.out, firstR_hit hlt hz.out (by rw [HJ.out, andE_n hF0]; exact hF0), HJ.out, andE_n hF0]
        go_wp2
        go_ret
        exact ⟨ret_int hr.out.symm, HB.out⟩
      subst hF0
      have HLc := Lib.hid (HL.out.keep HB.out)
      have p0 := P.out.cell 0
      simp only [List.getElem?_toArray, List.getElem?_cons_zero] at p0
      obtain ⟨d, hd⟩ : ∃ d, d = S.d := ⟨_, rfl⟩
      rw [← hd] at p0 HJ
      clear hd P
      rcases Nat.eq_zero_or_pos j with hj0 | hj0
      · subst hj0
        by_cases hd0 : d = 0
        · have hr : Hid (spAtE l 0 = 0) := by show _ = _; rw [HJ.out, andE_0 rfl, if_neg (by omega)]
          subst hd0
          go_wp2
          go_region
          go_wp2
          go_roundw
          case rel => exact ⟨1, by omega, by go_num, (fun i hi => by obtain rfl : i = 0 := (by omega); exact hr.out), HB.out.drew⟩
          case measure => simp [intOf]; omega
        · have h11 : spAtE l 0 = 11 := by rw [HJ.out, andE_0 rfl, if_pos (.inl ⟨rfl, hd0⟩)]
          have hr : Hid (V = 11) := by
            show _ = _
            rw [HV.out, firstR_hit hlt hz.out (by rw [h11]; decide), h11]
          have hdb : (d != 0) = true := by simpa using hd0
          clear h11
          go_wp2
          go_region
          go_wp2
          go_ret
          exact ⟨ret_int hr.out.symm, HB.out.drew⟩
      · obtain ⟨q, rfl⟩ : ∃ q, j = q + 1 := ⟨j - 1, by omega⟩
        rw [Nat.add_sub_cancel] at HJ
        obtain ⟨b', o', e', hc⟩ := HLc.out.2 (by omega)
        cases e'
        obtain ⟨d1, _, _⟩ := hc q (by omega)
        obtain ⟨u, hu⟩ : ∃ u, u = (Bell.spAt l q).d := ⟨_, rfl⟩
        rw [← hu] at d1 HJ
        clear hc hu
        have hqz : ((q : Int) + 1 == 0) = false := by simp; omega
        by_cases heq : d ≤ u
        · have hbq : decide (d ≤ u) = true := decide_eq_true heq
          have h11 : spAtE l (q + 1) = 11 := by rw [HJ.out, andE_0 rfl, if_pos (.inr ⟨by omega, heq⟩)]
          have hr : Hid (V = 11) := by
            show _ = _
            rw [HV.out, firstR_hit hlt hz.out (by rw [h11]; decide), h11]
          clear heq h11
          go_wp2
          go_region
          go_wp2
          go_ret
          exact ⟨ret_int hr.out.symm, HB.out.drew⟩
        · have hbq : decide (d ≤ u) = false := decide_eq_false heq
          have hr : Hid (spAtE l (q + 1) = 0) := by show _ = _; rw [HJ.out, andE_0 rfl, if_neg (by omega)]
          clear heq
          go_wp2
          go_region
          go_wp2
          go_roundw
          case rel =>
            exact ⟨q + 1 + 1, by omega, by go_num, (fun i hi => by
              rcases Nat.lt_or_ge i (q + 1) with h | h
              · exact hz.out i h
              · obtain rfl : i = q + 1 := (by omega)
                exact hr.out), HB.out.drew⟩
          case measure => simp [intOf]; omega
    · have hr : Hid (V = 0) := by
        show _ = _
        rw [HV.out]
        exact firstR_miss fun i hi => hz.out i (by omega)
      go_wp2
      go_ret
      exact ⟨ret_int hr.out.symm, hb.out⟩
end Go.Proofs.YtmafmebcgmegeaaGreatDoor
