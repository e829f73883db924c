/- Part. -/
import Derived.Test.YtmafmebcgmegeaaGreatDoorGz1
import Derived.Test.YtmafmebcgmegeaaGreatDoorGz14
namespace Go.Proofs.YtmafmebcgmegeaaGreatDoor
open Go.RowKit Go.Sort
set_option maxHeartbeats 1000000 in
set_option maxRecDepth 100000 in
theorem checkPath_any (A : Option Addr) (n c : Nat) (l : List Bell.Pt) (w : World) (hl : PtsAt w A n l) (hn : n <= 140737488351232) :
  Calls Tryz.prog 127 #[.slice A n c] w fun e w' => e = .returned (.int .i64 (pathE l)) /\ Below w.heap.size w w' := by
 have HL := lh hl; have HN := lh hl.1; obtain ⟨V, hV⟩ : ∃ V, V = pathE l := ⟨_, rfl⟩; have HV : Hid (V = andE (lengthE n 16) (firstR (ptAtE l) n)) := by show _ = _; rw [hV, <- hl.1]; rfl
 rw [<- hV]; clear hl hV
 go_enter Tryz.func127, Tryz.ntmps127
 go_wp2_with fail
 refine (length_pt A n c 16 w).mono ?_; rintro e w' ⟨rfl, rfl⟩; obtain ⟨E, hE⟩ : ∃ E, E = lengthE n 16 := ⟨_, rfl⟩; rw [<- hE] at HV ⊢; clear hE
 by_cases h0 : E = 0
 case neg =>
  have hr : V = E := by rw [HV.out, andE_n h0]
  go_wp2
  go_ret
  exact ⟨ret_int hr.symm, Below.refl _ _⟩
 replace HV : Hid (V = firstR (ptAtE l) n) := by show _ = _; rw [HV.out, andE_0 h0]
 subst h0; go_wp2
 go_loopw [4, 5, 6, 14] (fun _ _ _ k wr => ∃ j : Nat, j <= n /\ k = .int .i64 j /\ Hid (∀ i, i < j -> ptAtE l i = 0) /\ Hid (Below w'.heap.size w' wr)) (fun _ _ _ k _ => n - (intOf k).toNat)
 case atStart => exact ⟨0, Nat.zero_le _, rfl, (fun i hi => by omega), Below.refl _ _⟩
 case round =>
  obtain ⟨j, hj, rfl, hz, hb⟩ := hrel
  by_cases hlt : j < n
  ·have HLr := lh (HL.out.keep hb.out); obtain ⟨b, o, rfl, hc⟩ := HLr.out.2 (by omega); obtain ⟨c1, c2⟩ := hc j hlt; have HJ : Hid (ptAtE l j = andE (firstE [withinE (Bell.ptAt l j).x (-100000) 100000, withinE (Bell.ptAt l j).y (-100000) 100000]) (if 0 < j /\ (Bell.ptAt l j).x = (Bell.ptAt l (j - 1)).x /\ (Bell.ptAt l j).y = (Bell.ptAt l (j - 1)).y then 9 else 0)) := rfl; obtain ⟨x, hx⟩ : ∃ x, x = (Bell.ptAt l j).x := ⟨_, rfl⟩; obtain ⟨y, hy⟩ : ∃ y, y = (Bell.ptAt l j).y := ⟨_, rfl⟩; rw [<- hx] at c1 HJ; rw [<- hy] at c2 HJ; clear hc hx hy
   go_upto_region 7 with fail
   have HB := hb; clear hb; obtain ⟨wa, hwa⟩ : ∃ W, W = (wr.alloc (.cells #[.int .i64 x, .int .i64 y] 30)) := ⟨_, rfl⟩; rw [<- hwa]; have P : Hid (Blk wa (wr.heap.size) 30 #[.int .i64 x, .int .i64 y]) := by show Blk _ _ _ _; rw [hwa]; exact Blk.new _ _ _
   have hba : Below wr.heap.size wr wa := by rw [hwa]; exact ((Below.refl _ _).alloc (Nat.le_refl _) _)
   obtain ⟨gp, hgp⟩ : ∃ g, g = wr.heap.size := ⟨_, rfl⟩; have HGwa : Hid (gp = wr.heap.size) := hgp; rw [<- hgp] at P
   try rw [<- hgp]
   clear hwa hgp; replace HB := lh (HB.out.trans (hba.mono HB.out.size)); clear hba; clear c1 c2; have a0 := fun d os => cell_regrown (P.out.cell 0) d os
   have a1 := fun d os => cell_regrown (P.out.cell 1) d os
   have f0 := fun nd ns => Calls.regrown_of (Calls.grow_same (srcFar_st x (grow (redrawn wa nd) ns)))
   have f1 := fun nd ns => Calls.regrown_of (Calls.grow_same (srcFar_st y (grow (redrawn wa nd) ns)))
   refine wp_region_below_tail 6 (by kernel_rfl) (by kernel_rfl) ?_; simp only [List.take_succ_cons, List.take_zero, List.drop_succ_cons, List.drop_zero]
   iterate 2 (quiet_step (fail))
   quiet_step (exact f0 _ _)
   iterate 2 (quiet_step (fail))
   quiet_step (exact f1 _ _)
   refine wpQuiet_nil ?_; intro wb hq1; obtain ⟨⟨dq, osq⟩, hq2⟩ := hq1; have hbb := below_regrown wa dq osq; rw [<- hq2] at hbb; clear hq2; replace HB := lh (HB.out.trans (hbb.mono HB.out.size)); replace P := lh (P.out.below hbb); clear hbb; clear a0 a1 f0 f1
   go_wp2_with fail
   obtain ⟨wc, hwc⟩ : ∃ W, W = (wb.alloc (.cells #[.int .i64 (withinE x (-100000) 100000), .int .i64 (withinE y (-100000) 100000)] 37)) := ⟨_, rfl⟩; rw [<- hwc]; have ES : Hid (Blk wc (wb.heap.size) 37 #[.int .i64 (withinE x (-100000) 100000), .int .i64 (withinE y (-100000) 100000)]) := by show Blk _ _ _ _; rw [hwc]; exact Blk.new _ _ _
   have hbc : Below wb.heap.size wb wc := by rw [hwc]; exact ((Below.refl _ _).alloc (Nat.le_refl _) _)
   obtain ⟨ge, hge⟩ : ∃ g, g = wb.heap.size := ⟨_, rfl⟩; have HGwc : Hid (ge = wb.heap.size) := hge; rw [<- hge] at ES
   try rw [<- hge]
   clear hwc hge; replace HB := lh (HB.out.trans (hbc.mono HB.out.size)); replace P := lh (P.out.below hbc); clear hbc; refine (first2 _ _ (withinE x (-100000) 100000) (withinE y (-100000) 100000) _ (ES.out.cell 0) (ES.out.cell 1)).mono ?_; rintro e w2 ⟨rfl, rfl⟩; clear ES; obtain ⟨F, hF⟩ : ∃ F, F = firstE [withinE x (-100000) 100000, withinE y (-100000) 100000] := ⟨_, rfl⟩; rw [<- hF] at HJ ⊢; clear hF
   by_cases hF0 : F = 0
   case neg =>
    have hr : Hid (V = F) := by
     show _ = _
     rw [HV.out, firstR_hit hlt hz.out (by rw [HJ.out, andE_n hF0]; exact hF0), HJ.out, andE_n hF0]
    go_wp2
    go_ret
    exact ⟨ret_int hr.out.symm, HB.out⟩
   subst hF0; have HLc := lh (HL.out.keep HB.out); have PP := P.out; have pc0 := PP.cell 0; have pf0 := PP.frozen 0; have pc1 := PP.cell 1; have pf1 := PP.frozen 1; simp only [List.getElem?_toArray, List.getElem?_cons_zero, List.getElem?_cons_succ] at pc0 pc1; clear PP; rcases Nat.eq_zero_or_pos j with hj0 | hj0
   ·subst hj0; have hr : Hid (ptAtE l 0 = 0) := by show _ = _; rw [HJ.out]; simp [andE]
    go_wp2
    go_region
    go_wp2
    go_roundw
    case rel => exact ⟨1, by omega, by go_num, (fun i hi => by obtain rfl : i = 0 := (by omega); exact hr.out), HB.out.drew⟩
    case measure => simp [intOf]; omega
   ·obtain ⟨q, rfl⟩ : ∃ q, j = q + 1 := ⟨j - 1, by omega⟩; rw [Nat.add_sub_cancel] at HJ; obtain ⟨b', o', e', hc⟩ := HLc.out.2 (by omega)
    cases e'
    obtain ⟨d1, d2⟩ := hc q (by omega); obtain ⟨u, hu⟩ : ∃ u, u = (Bell.ptAt l q).x := ⟨_, rfl⟩; obtain ⟨v, hv⟩ : ∃ v, v = (Bell.ptAt l q).y := ⟨_, rfl⟩; rw [<- hu] at d1 HJ; rw [<- hv] at d2 HJ; clear hc hu hv
    by_cases hxu : x = u
    ·subst hxu
     by_cases hyv : y = v
     ·subst hyv
      have hr : Hid (V = 9) := by
       show _ = _
       have h9 : ptAtE l (q + 1) = 9 := by rw [HJ.out, andE_0 rfl, if_pos ⟨by omega, rfl, rfl⟩]
       rw [HV.out, firstR_hit hlt hz.out (by rw [h9]; decide), h9]
      go_wp2
      go_region
      go_wp2
      go_ret
      exact ⟨ret_int hr.out.symm, HB.out.drew⟩
     ·skip
      have hr : Hid (ptAtE l (q + 1) = 0) := by show _ = _; rw [HJ.out, andE_0 rfl, if_neg (fun h => hyv h.2.2)]
      go_wp2
      go_region
      go_wp2
      go_roundw
      case rel =>
       exact ⟨q + 1 + 1, by omega, by go_num, (fun i hi => by
        rcases Nat.lt_or_ge i (q + 1) with h | h
        ·exact hz.out i h
        ·obtain rfl : i = q + 1 := (by omega); exact hr.out), HB.out.drew⟩
      case measure => simp [intOf]; omega
    ·skip
     have hr : Hid (ptAtE l (q + 1) = 0) := by show _ = _; rw [HJ.out, andE_0 rfl, if_neg (fun h => hxu h.2.1)]
     go_wp2
     go_region
     go_wp2
     go_roundw
     case rel =>
      exact ⟨q + 1 + 1, by omega, by go_num, (fun i hi => by
       rcases Nat.lt_or_ge i (q + 1) with h | h
       ·exact hz.out i h
       ·obtain rfl : i = q + 1 := (by omega); exact hr.out), HB.out.drew⟩
     case measure => simp [intOf]; omega
  ·have hr : Hid (V = 0) := by
    show _ = _
    rw [HV.out]; exact firstR_miss fun i hi => hz.out i (by omega)
   go_wp2
   go_ret
   exact ⟨ret_int hr.out.symm, hb.out⟩
set_option maxHeartbeats 1000000 in
set_option maxRecDepth 100000 in
theorem CheckProcedure_any (A : Option Addr) (n c : Nat) (l : List Bell.Sp) (w : World) (hl : SpsAt w A n l) (hn : n <= 140737488351232) :
  Calls Tryz.prog 54 #[.slice A n c] w fun e w' => e = .returned (.int .i64 (procE l)) /\ Below w.heap.size w w' := by
 have HL := lh hl; have HN := lh hl.1; obtain ⟨V, hV⟩ : ∃ V, V = procE l := ⟨_, rfl⟩; have HV : Hid (V = andE (lengthE n 8) (firstR (spAtE l) n)) := by show _ = _; rw [hV, <- hl.1]; rfl
 rw [<- hV]; clear hl hV
 go_enter Tryz.func54, Tryz.ntmps54
 go_wp2_with fail
 refine (length_step A n c 8 w).mono ?_; rintro e w' ⟨rfl, rfl⟩; obtain ⟨E, hE⟩ : ∃ E, E = lengthE n 8 := ⟨_, rfl⟩; rw [<- hE] at HV ⊢; clear hE
 by_cases h0 : E = 0
 case neg =>
  have hr : V = E := by rw [HV.out, andE_n h0]
  go_wp2
  go_ret
  exact ⟨ret_int hr.symm, Below.refl _ _⟩
 replace HV : Hid (V = firstR (spAtE l) n) := by show _ = _; rw [HV.out, andE_0 h0]
 subst h0; go_wp2
 go_loopw [4, 5, 6, 14] (fun _ _ _ k wr => ∃ j : Nat, j <= n /\ k = .int .i64 j /\ Hid (∀ i, i < j -> spAtE l i = 0) /\ Hid (Below w'.heap.size w' wr)) (fun _ _ _ k _ => n - (intOf k).toNat)
 case atStart => exact ⟨0, Nat.zero_le _, rfl, (fun i hi => by omega), Below.refl _ _⟩
 case round =>
  obtain ⟨j, hj, rfl, hz, hb⟩ := hrel
  by_cases hlt : j < n
  ·have HLr := lh (HL.out.keep hb.out); obtain ⟨b, o, rfl, hc⟩ := HLr.out.2 (by omega); obtain ⟨c1, c2, c3⟩ := hc j hlt; have HJ : Hid (spAtE l j = andE (stepE (Bell.spAt l j)) (if (j = 0 /\ (Bell.spAt l j).d ≠ 0) ∨ (0 < j /\ (Bell.spAt l j).d <= (Bell.spAt l (j - 1)).d) then 11 else 0)) := rfl; obtain ⟨S, hS⟩ : ∃ S, S = Bell.spAt l j := ⟨_, rfl⟩; rw [<- hS] at c1 c2 c3 HJ; clear hc hS; have HB := hb; clear hb; have HS0 : Hid (spV S = #[.int .i64 S.d, .int .i64 S.h, .int .i64 S.p]) := rfl
   go_wp2_with fail
   obtain ⟨wa, hwa⟩ : ∃ W, W = (wr.alloc (.cells #[.int .i64 S.d, .int .i64 S.h, .int .i64 S.p] 166)) := ⟨_, rfl⟩; rw [<- hwa]; have P : Hid (Blk wa (wr.heap.size) 166 #[.int .i64 S.d, .int .i64 S.h, .int .i64 S.p]) := by show Blk _ _ _ _; rw [hwa]; exact Blk.new _ _ _
   have hba : Below wr.heap.size wr wa := by rw [hwa]; exact ((Below.refl _ _).alloc (Nat.le_refl _) _)
   obtain ⟨gp, hgp⟩ : ∃ g, g = wr.heap.size := ⟨_, rfl⟩; have HGwa : Hid (gp = wr.heap.size) := hgp; rw [<- hgp] at P
   try rw [<- hgp]
   clear hwa hgp; replace HB := lh (HB.out.trans (hba.mono HB.out.size)); clear hba; clear c1 c2 c3; refine (stepCheck_any S wa).mono ?_; rintro e wb ⟨rfl, hbb⟩; replace HB := lh (HB.out.trans (hbb.mono HB.out.size)); replace P := lh (P.out.below hbb); clear hbb; obtain ⟨F, hF⟩ : ∃ F, F = stepE S := ⟨_, rfl⟩; rw [<- hF] at HJ ⊢; clear hF HS0
   by_cases hF0 : F = 0
   case neg =>
    have hr : Hid (V = F) := by
     show _ = _
     rw [HV.out, firstR_hit hlt hz.out (by rw [HJ.out, andE_n hF0]; exact hF0), HJ.out, andE_n hF0]
    go_wp2
    go_ret
    exact ⟨ret_int hr.out.symm, HB.out⟩
   subst hF0; have HLc := lh (HL.out.keep HB.out); have p0 := P.out.cell 0; simp only [List.getElem?_toArray, List.getElem?_cons_zero] at p0; obtain ⟨d, hd⟩ : ∃ d, d = S.d := ⟨_, rfl⟩; rw [<- hd] at p0 HJ; clear hd P; rcases Nat.eq_zero_or_pos j with hj0 | hj0
   ·subst hj0
    by_cases hd0 : d = 0
    ·have hr : Hid (spAtE l 0 = 0) := by show _ = _; rw [HJ.out, andE_0 rfl, if_neg (by omega)]
     subst hd0; go_wp2
     go_region
     go_wp2
     go_roundw
     case rel => exact ⟨1, by omega, by go_num, (fun i hi => by obtain rfl : i = 0 := (by omega); exact hr.out), HB.out.drew⟩
     case measure => simp [intOf]; omega
    ·have h11 : spAtE l 0 = 11 := by rw [HJ.out, andE_0 rfl, if_pos (.inl ⟨rfl, hd0⟩)]
     have hr : Hid (V = 11) := by
      show _ = _
      rw [HV.out, firstR_hit hlt hz.out (by rw [h11]; decide), h11]
     have hdb : (d != 0) = true := by simpa using hd0
     clear h11; go_wp2
     go_region
     go_wp2
     go_ret
     exact ⟨ret_int hr.out.symm, HB.out.drew⟩
   ·obtain ⟨q, rfl⟩ : ∃ q, j = q + 1 := ⟨j - 1, by omega⟩; rw [Nat.add_sub_cancel] at HJ; obtain ⟨b', o', e', hc⟩ := HLc.out.2 (by omega)
    cases e'
    obtain ⟨d1, _, _⟩ := hc q (by omega); obtain ⟨u, hu⟩ : ∃ u, u = (Bell.spAt l q).d := ⟨_, rfl⟩; rw [<- hu] at d1 HJ; clear hc hu; have hqz : ((q : Int) + 1 == 0) = false := by simp; omega
    by_cases heq : d <= u
    ·have hbq : decide (d <= u) = true := decide_eq_true heq; have h11 : spAtE l (q + 1) = 11 := by rw [HJ.out, andE_0 rfl, if_pos (.inr ⟨by omega, heq⟩)]
     have hr : Hid (V = 11) := by
      show _ = _
      rw [HV.out, firstR_hit hlt hz.out (by rw [h11]; decide), h11]
     clear heq h11; go_wp2
     go_region
     go_wp2
     go_ret
     exact ⟨ret_int hr.out.symm, HB.out.drew⟩
    ·have hbq : decide (d <= u) = false := decide_eq_false heq; have hr : Hid (spAtE l (q + 1) = 0) := by show _ = _; rw [HJ.out, andE_0 rfl, if_neg (by omega)]
     clear heq; go_wp2
     go_region
     go_wp2
     go_roundw
     case rel =>
      exact ⟨q + 1 + 1, by omega, by go_num, (fun i hi => by
       rcases Nat.lt_or_ge i (q + 1) with h | h
       ·exact hz.out i h
       ·obtain rfl : i = q + 1 := (by omega); exact hr.out), HB.out.drew⟩
     case measure => simp [intOf]; omega
  ·have hr : Hid (V = 0) := by
    show _ = _
    rw [HV.out]; exact firstR_miss fun i hi => hz.out i (by omega)
   go_wp2
   go_ret
   exact ⟨ret_int hr.out.symm, hb.out⟩
theorem lv_agg {w : World} {g : Nat} {a : Bell.Fx} (h : Blk w g 152 (fxV a)) : (loadVar 152 ⟨g, 0, none⟩).run Tryz.prog w = .ok (.agg (fxV a)) w :=
 h.lv Tryz.prog (T := 152) Tryz.underlying152 rfl (by kernel_rfl)
theorem fxV_info (p : Bell.Fx) : (Tryz.prog.info? 152).map (·.size) = some (fxV p).size := by
 show _ = some 5
 kernel_rfl
theorem fxV_one (p : Bell.Fx) : (fxV p).all (·.oneCell') = true := by simp [fxV, Value.oneCell']
set_option maxHeartbeats 400000 in
set_option maxRecDepth 100000 in
theorem Repaired_any (b off n c : Nat) (l : List Bell.Fx) (v : Int) (w : World) (hl : FixesAt w b off n l) (hg : Bell.GoodTr l) (hcap : n <= c) (hc2 : c <= 9223372036854775807) :
  Calls Tryz.prog 37 #[.slice (some ⟨b, off, none⟩) n c, .int .i64 v] w fun e w' => RepPost l v e w' /\ Below w.heap.size w w' := by
 obtain ⟨i0, hi, hz0, hz1, hz2⟩ := info_parts infoFix; have hn := hl.1; have g1 := hg.lo; have g2 := hg.hi; obtain ⟨m, rfl⟩ : ∃ m, n = m + 1 := ⟨n - 1, by omega⟩; have hm1 : 1 <= m := by omega
 have hm2 : m <= 15 := by omega
 have hlm : Hid (l.length = m + 1) := hn; have HL := lh hl; have HG := lh hg
 have hsl : ∀ W, (Instr.slice 67 (.slice (some ⟨b, off, none⟩) (m + 1) c) (some (.int .i64 1)) none none).run Tryz.prog W = .ok (.slice (some ⟨b, off + 5, none⟩) m (c - 1)) W := fun W => by
  rw [run_slice_l W _ _ _ _ (by kernel_rfl) .i64 _ (by omega) (by omega), show Tryz.prog.elem 67 = 152 by kernel_rfl, show (Go.sizeOf 152).run Tryz.prog W = .ok 5 W by kernel_rfl]; have h1 : ¬ c = 1 := by omega
  simp [Result.andThen, sliced, Addr.add, h1]
 obtain ⟨P, hP⟩ : ∃ P : Ending -> World -> Prop, P = fun e w' => RepPost l v e w' := ⟨_, rfl⟩
 have HP := lh hP; have HE : Hid (∀ e w', RepPost l v e w' -> P e w') := fun e w' h => by rw [HP.out]; exact h
 refine Calls.mono (R := fun e w' => P e w' /\ Below w.heap.size w w') ?_ (fun e w' h => by rw [HP.out] at h; exact h); have HB : Hid (Below w.heap.size w w) := Below.refl _ _; clear hl hg hn g1 g2 hcap hc2 hP
 go_enter Tryz.func37, Tryz.ntmps37
 go_wp2_with fail
 refine (CheckTrack_ok b off (m + 1) c l w HL.out HG.out).mono ?_; rintro e w1 ⟨rfl, hb1⟩; replace HB := lh (HB.out.trans (hb1.mono HB.out.size)); clear hb1
 go_wp2_with fail
 refine (srcSpeed_st v w1).mono ?_; rintro e w2 ⟨rfl, hw2⟩; subst hw2; obtain ⟨E, hE⟩ : ∃ E, E = withinE v 1 1000 := ⟨_, rfl⟩; rw [<- hE]; have HEV := lh hE; clear hE
 go_wp2_with fail
 obtain ⟨w3, hw3⟩ : ∃ W, W = (w2.alloc (.cells #[.int .i64 0, .int .i64 E] 37)) := ⟨_, rfl⟩; rw [<- hw3]; have ES : Hid (Blk w3 (w2.heap.size) 37 #[.int .i64 0, .int .i64 E]) := by show Blk _ _ _ _; rw [hw3]; exact Blk.new _ _ _
 have hb3 : Below w2.heap.size w2 w3 := by rw [hw3]; exact ((Below.refl _ _).alloc (Nat.le_refl _) _)
 obtain ⟨ge, hge⟩ : ∃ g, g = w2.heap.size := ⟨_, rfl⟩; have HGw3 : Hid (ge = w2.heap.size) := hge; rw [<- hge] at ES
 try rw [<- hge]
 clear hw3 hge; replace HB := lh (HB.out.trans (hb3.mono HB.out.size)); clear hb3; refine (first2 _ _ 0 E _ (ES.out.cell 0) (ES.out.cell 1)).mono ?_; rw [firstE_02]; rintro e w4 ⟨rfl, rfl⟩; clear ES
 by_cases h0 : E = 0
 case neg =>
  have hr : Hid (RepPost l v (.returned (.tuple #[.slice none 0 0, .int .i64 E])) w3) := ⟨fun _ => by rw [<- HEV.out], fun h => absurd (HEV.out.trans h) h0⟩; go_wp2
  (try simp only [Exit.inBlock, Exit.then])
  refine bodyPost_ret (v := .tuple #[.slice none 0 0, .int .i64 E]) (by simp [results, Tryz.results37, go_sem, asAddr]) rfl ?_; exact ⟨HE.out _ _ hr.out, HB.out⟩
 have hv := withinE_zero (HEV.out.symm.trans h0); obtain ⟨v0, v1⟩ := hv; have HV1 : Hid (1 <= v /\ v <= 1000) := ⟨v0, v1⟩; have HE0 : Hid (withinE v 1 1000 = 0) := by show _ = _; rw [<- HEV.out]; exact h0
 subst h0; clear v0 v1
 go_upto_region 5 with (at_make; refine wpList_make_full _ rfl _ _ 67 rfl w.heap.size 152 i0 (.agg #[.int .i64 0, .int .i64 0, .int .i64 0, .int .i64 0, .int .i64 0]) 5 Tryz.underlying67 hi hz0 hz1 _ _ _ _ (m + 1) rfl rfl rfl rfl (by rw [hz2]; omega) (by unfold maxLen; omega) (HB.out.size) ?_; intro w5 hown hg5)
 obtain ⟨cur, hbk, hcs, hgb, _⟩ := own_full hown; have hb5 : Below w3.heap.size w3 w5 := Below.grown (Below.refl _ _) hg5 (Nat.le_refl _) (fun k hk => by cases hk); obtain ⟨gr, hgr⟩ : ∃ g, g = w3.heap.size := ⟨_, rfl⟩; rw [<- hgr] at hbk hgb ⊢; have HBK := lh hbk; replace HB := lh (HB.out.trans (hb5.mono HB.out.size)); clear hb5; have hgl : Hid (gr < w5.heap.size) := lt_of_block hbk; have HGR := lh hgb; clear hown hg5 hgb hgr hbk
 have hsrc : ∀ j v, (fxCells l)[j]? = some v -> w5.cell? ((⟨b, off, none⟩ : Addr).add j) = some v := by
  have hF := HL.out.keep HB.out; intro j u hj; rw [addAddr]; have hlen : j < (fxCells l).length := (List.getElem?_eq_some_iff.1 hj).1; rw [fxCells_len] at hlen; obtain ⟨p0, p1, p2, p3, p4⟩ := fxCells_at l (j / 5) (by omega); obtain ⟨q0, q1, q2, q3, q4⟩ := hF.2 (j / 5) (by rw [hlm.out] at hlen; omega); have hm5 : j % 5 < 5 := Nat.mod_lt _ (by omega); have hje : j = j / 5 * 5 + j % 5 := by omega
  rw [hje] at hj ⊢; have hcs5 : j % 5 = 0 ∨ j % 5 = 1 ∨ j % 5 = 2 ∨ j % 5 = 3 ∨ j % 5 = 4 := by omega
  rcases hcs5 with e | e | e | e | e <;> rw [e] at hj ⊢
  ·rw [Nat.add_zero] at hj ⊢; rw [q0]; rw [p0] at hj; exact hj
  ·rw [<- Nat.add_assoc, q1]; rw [p1] at hj; exact hj
  ·rw [<- Nat.add_assoc, q2]; rw [p2] at hj; exact hj
  ·rw [<- Nat.add_assoc, q3]; rw [p3] at hj; exact hj
  ·rw [<- Nat.add_assoc, q4]; rw [p4] at hj; exact hj
 have hone : ∀ u ∈ fxCells l, u.oneCell' = true := by
  intro u hu; simp only [fxCells, List.mem_flatMap] at hu; obtain ⟨p, _, hu⟩ := hu; simp only [List.mem_cons, List.not_mem_nil, or_false] at hu; rcases hu with rfl | rfl | rfl | rfl | rfl <;> rfl
 have hlen5 : (fxCells l).length = (m + 1) * 5 := by rw [fxCells_len, hlm.out]
 have hcp := run_copy_rows (P := Tryz.prog) w5 67 67 3 152 gr 0 (m + 1) (m + 1) ⟨b, off, none⟩ c 5 cur 152 (fxCells l) Tryz.underlying67 (by kernel_rfl) HBK.out hlen5 hsrc (by omega) hone
 have hA : (cur.toList.take 0 ++ fxCells l ++ cur.toList.drop (0 + (fxCells l).length)) = fxCells l := by
  rw [List.drop_of_length_le (by simp; omega)]
  simp
 rw [hA] at hcp; obtain ⟨w6, hw6⟩ : ∃ X, X = w5.setRow gr (fxCells l).toArray := ⟨_, rfl⟩; rw [<- hw6] at hcp; have B6 : Hid (Blk w6 gr 152 (fxCells l).toArray) := by show Blk _ _ _ _; rw [hw6]; exact HBK.out.setRow _
 replace HB : Hid (Below w.heap.size w w6) := by show Below _ _ _; rw [hw6]; exact HB.out.setRow' HGR.out _
 have hone0 : Bell.repair v (l.take 1) = [Bell.fxAt l 0] := by
  have : 0 < l.length := by rw [hlm.out]; omega
  cases l with
  | nil => simp at this
  | cons a t => simp [Bell.repair, Bell.keep, Bell.fxAt]
 have HF0 : Hid (FixesAt w6 gr 0 (Bell.repair v (l.take 1)).length (Bell.repair v (l.take 1))) := by
  show FixesAt _ _ _ _ _
  rw [hone0]; refine fixes_snoc (l := []) B6.out (fun i hi => by simp at hi) fun k hk => ?_
  obtain ⟨p0, p1, p2, p3, p4⟩ := fxCells_at l 0 (by rw [hlm.out]; omega); rw [List.getElem?_toArray]; simp only [List.length_nil, Nat.zero_mul, Nat.zero_add]
  match k, hk with
  | 0, _ => simpa [fxV] using p0
  | 1, _ => simpa [fxV] using p1
  | 2, _ => simpa [fxV] using p2
  | 3, _ => simpa [fxV] using p3
  | 4, _ => simpa [fxV] using p4
 have hone1 : (Bell.repair v (l.take 1)).length = 1 := by rw [hone0]; rfl
 have HL1 := lh hone1; have hcz : Hid ((fxCells l).toArray.size = (m + 1) * 5) := by show _ = _; simp [hlen5]
 clear hsrc hone hlen5 hA hone0 hone1 hw6 hcs HBK; go_wp2
 go_loopw [8, 10, 29] (fun x _ k wr => ∃ j : Nat, j <= m /\ k = .int .i64 j /\ x = .int .i64 ((Bell.repair v (l.take (j + 1))).length : Nat) /\ Hid (FixesAt wr gr 0 (Bell.repair v (l.take (j + 1))).length (Bell.repair v (l.take (j + 1)))) /\ Hid (∃ cur, Blk wr gr 152 cur /\ cur.size = (m + 1) * 5) /\ Hid (Below w.heap.size w wr)) (fun _ _ k _ => m - (intOf k).toNat)
 case atStart => exact ⟨0, Nat.zero_le _, rfl, by rw [HL1.out]; rfl, HF0, ⟨_, B6.out, hcz.out⟩, HB⟩
 case round =>
  obtain ⟨j, hj, rfl, rfl, hF, hC, hb⟩ := hrel; clear HF0 B6 HB hcz HL1 hcp; obtain ⟨R, hR⟩ : ∃ R, R = Bell.repair v (l.take (j + 1)) := ⟨_, rfl⟩; rw [<- hR] at hF ⊢; have HR := lh hR; have hRp : 0 < R.length := by rw [hR]; exact repair_pos v (by rw [List.length_take, hlm.out]; omega)
  have hRl : R.length <= j + 1 := by rw [hR]; exact Nat.le_trans (repair_len v _) (by rw [List.length_take]; omega)
  obtain ⟨M, hM⟩ : ∃ M, R.length = M + 1 := ⟨R.length - 1, by omega⟩; rw [hM] at hF ⊢; rw [show ((M + 1 : Nat) : Int) = (M : Int) + 1 by omega]; have HM := lh hM; have hMj : M <= j := by omega
  clear hR hM hRp
  by_cases hlt : j < m
  ·have HB := hb; have HLr := lh (HL.out.keep HB.out); obtain ⟨p, hp⟩ : ∃ p, p = Bell.fxAt l (j + 1) := ⟨_, rfl⟩; obtain ⟨q, hq⟩ : ∃ q, q = Bell.fxAt R M := ⟨_, rfl⟩
   have HPA : Hid (FixAt wr b (off + 5 + j * 5) p) := by
    have := HLr.out.2 (j + 1) (by omega); rw [<- hp, show off + (j + 1) * 5 = off + 5 + j * 5 by omega] at this; exact this
   have HQA : Hid (FixAt wr gr (M * 5) q) := by
    have := hF.out.2 M (by omega); rw [<- hq, Nat.zero_add] at this; exact this
   have hqm : ∃ i, i < j + 1 /\ i < l.length /\ Bell.fxAt l i = q := by
    have h1 : q ∈ Bell.repair v (l.take (j + 1)) := by rw [hq, <- HR.out]; exact fxAt_mem (by rw [HM.out]; omega)
    exact mem_take_fxAt ((Bell.repair_sub v _).subset h1)
   obtain ⟨i, hi1, hi2, hi3⟩ := hqm; have gp := HG.out.pts (j + 1) (by rw [hlm.out]; omega); have gq := HG.out.pts i hi2; have ht := HG.out.up i (j + 1) hi1 (by rw [hlm.out]; omega)
   have ht0 : (Bell.fxAt l 0).t <= (Bell.fxAt l i).t := by
    rcases Nat.eq_zero_or_pos i with h | h
    ·subst h; exact Int.le_refl _
    ·exact Int.le_of_lt (HG.out.up 0 i h hi2)
   have htL : (Bell.fxAt l (j + 1)).t <= (Bell.fxAt l (l.length - 1)).t := by
    rcases Nat.lt_or_ge (j + 1) (l.length - 1) with h | h
    ·exact Int.le_of_lt (HG.out.up (j + 1) (l.length - 1) h (by rw [hlm.out]; omega))
    ·rw [show j + 1 = l.length - 1 by rw [hlm.out] at h ⊢; omega]; exact Int.le_refl _
   have hls := HG.out.last; rw [hi3] at gq ht ht0; rw [<- hp] at gp ht htL; have HFL := lh (fun W => flyable_any q p v W gq gp (by omega) (by omega) HV1.out.1 HV1.out.2)
   have HST : Hid (Bell.repair v (l.take (j + 2)) = if Bell.flies v q p then R ++ [p] else R) := by
    show _ = _
    rw [repair_step (by rw [hlm.out]; omega), <- HR.out, HM.out, Nat.add_sub_cancel, <- hq, <- hp]
   clear gp gq ht ht0 htL hls hi1 hi2 hi3 hp hq i; obtain ⟨p0, p1, p2, p3, p4⟩ := HPA.out
   go_upto_region 10 with fail
   obtain ⟨wa, hwa⟩ : ∃ W, W = (wr.alloc (.cells #[.int .i64 p.t, .int .i64 p.x, .int .i64 p.y, .int .i64 p.z, .int .i64 p.p] 152)) := ⟨_, rfl⟩; rw [<- hwa]; have PB : Hid (Blk wa (wr.heap.size) 152 #[.int .i64 p.t, .int .i64 p.x, .int .i64 p.y, .int .i64 p.z, .int .i64 p.p]) := by show Blk _ _ _ _; rw [hwa]; exact Blk.new _ _ _
   have hba : Below wr.heap.size wr wa := by rw [hwa]; exact ((Below.refl _ _).alloc (Nat.le_refl _) _)
   obtain ⟨gp, hgp⟩ : ∃ g, g = wr.heap.size := ⟨_, rfl⟩; have HGwa : Hid (gp = wr.heap.size) := hgp; rw [<- hgp] at PB
   try rw [<- hgp]
   clear hwa hgp; obtain ⟨cur, hbk, hcs⟩ := hC.out; have HBK := lh hbk; have HCS := lh hcs; clear p0 p1 p2 p3 p4 HPA HLr hbk hcs hC hb; replace HB := lh (HB.out.trans (hba.mono HB.out.size)); replace hF := lh (hF.out.keep hba); replace HQA := lh (HQA.out.keep hba); replace HBK := lh (HBK.out.below hba); clear hba; have lq := fun d os => (HQA.out.keep (below_regrown wa d os)).lv
   have lp := fun d os => lv_agg (a := p) (PB.out.below (below_regrown wa d os))
   have cf := fun nd ns => Calls.regrown_of ((HFL.out (grow (redrawn wa nd) ns)))
   have hMm : (M : Int) < (m : Int) + 1 := by omega
   have hMn : M < m + 1 := by omega
   have hM0 : (0 : Int) <= (M : Int) := by omega
   have hwr : IntKind.i64.wrap (M : Int) = (M : Int) := IntWalk.i64_in _ (by omega); refine wp_region_quiet_below (by kernel_rfl) (by kernel_rfl) ?_
   iterate 4 (quiet_step (fail))
   refine quiet_load _ _ rfl (by rfl) _ _ rfl lq ?_; refine quiet_load _ _ rfl (by rfl) _ _ rfl lp ?_
   iterate 1 (quiet_step (fail))
   quiet_step (exact cf _ _)
   refine wpQuiet_nil ?_; intro wb hq1; obtain ⟨⟨dq, osq⟩, hq2⟩ := hq1; have hbb := below_regrown wa dq osq; rw [<- hq2] at hbb; clear hq2; replace HB := lh (HB.out.trans (hbb.mono HB.out.size)); replace hF := lh (hF.out.keep hbb); replace HBK := lh (HBK.out.below hbb); replace PB := lh (PB.out.below hbb); clear hbb; clear lq lp cf HQA HFL
   by_cases hf : Bell.flies v q p
   ·have hd : decide (Bell.flies v q p) = true := decide_eq_true hf; have HN : Hid (Bell.repair v (l.take (j + 2)) = R ++ [p]) := by show _ = _; rw [HST.out, if_pos hf]
    rw [hd]; clear hf hd HST; have PP := PB.out; have zc0 := PP.cell 0; have zf0 := PP.frozen 0; have zc1 := PP.cell 1; have zf1 := PP.frozen 1; have zc2 := PP.cell 2; have zf2 := PP.frozen 2; have zc3 := PP.cell 3; have zf3 := PP.frozen 3; have zc4 := PP.cell 4; have zf4 := PP.frozen 4; simp only [List.getElem?_toArray, List.getElem?_cons_zero, List.getElem?_cons_succ] at zc0 zc1 zc2 zc3 zc4; clear PP
    have hth : wb.there gr ((M + 1) * 5) (fxV p).size := fun k hk => by
     have hk5 : k < 5 := hk; exact ⟨by rw [HBK.out.cell, Array.getElem?_eq_getElem (by rw [HCS.out]; omega)]; rfl, HBK.out.frozen _⟩
    have hM2 : (M : Int) + 1 < (m : Int) + 1 := by omega
    obtain ⟨cur2, hB2, hs2, k1, k2, k3⟩ := Blk.setCells (fxV p).toList ((M + 1) * 5) HBK.out; have hfx := fixes_cells HBK.out hF.out
    have HF2 : Hid (FixesAt (wb.setCells gr ((M + 1) * 5) (fxV p).toList) gr 0 (R.length + 1) (R ++ [p])) := by
     refine fixes_snoc hB2 (fun i hi k hk => ?_) fun k hk => ?_
     ·rw [k1 _ (by have h1 := HM.out; omega)]; exact hfx i hi k hk
     ·rw [HM.out, k3 k (by simpa [fxV] using hk) (by rw [HCS.out]; omega)]
      simp
    have HB2 : Hid (Below w.heap.size w (wb.setCells gr ((M + 1) * 5) (fxV p).toList)) := HB.out.setCells' HGR.out _ _; have HC2 : Hid (∃ cur, Blk (wb.setCells gr ((M + 1) * 5) (fxV p).toList) gr 152 cur /\ cur.size = (m + 1) * 5) := ⟨_, hB2, by rw [hs2, HCS.out]⟩; clear hB2 hs2 k1 k2 k3 hfx
    go_upto_region 12 with (refine wpList_store_mid rfl 152 _ _ rfl gr ((M + 1) * 5) (fxV p) rfl rfl hth (fxV_info p) (fxV_one p) ?_)
    clear hth; obtain ⟨wc, hwc⟩ : ∃ X, X = wb.setCells gr ((M + 1) * 5) (fxV p).toList := ⟨_, rfl⟩; rw [<- hwc] at HF2 HB2 HC2 ⊢; clear hwc; go_wp2; go_roundw
    case rel =>
     refine ⟨j + 1, by omega, by go_num, ?_, ?_, HC2, HB2⟩
     ·rw [HN.out, List.length_append, HM.out]
      go_num
     ·show FixesAt _ _ _ _ _
      rw [HN.out, List.length_append]; exact HF2.out
    case measure => simp [intOf]; omega
   ·have hd : decide (Bell.flies v q p) = false := decide_eq_false hf; have HN : Hid (Bell.repair v (l.take (j + 2)) = R) := by show _ = _; rw [HST.out, if_neg hf]
    rw [hd]; clear hf hd HST; go_wp2; go_roundw
    case rel =>
     refine ⟨j + 1, by omega, by go_num, ?_, ?_, ⟨cur, HBK.out, HCS.out⟩, HB⟩
     ·rw [HN.out, HM.out]
      go_num
     ·show FixesAt _ _ _ _ _
      rw [HN.out, HM.out]; exact hF.out
    case measure => simp [intOf]; omega
  ·obtain rfl : j = m := by omega
   have HW : Hid (Bell.repair v l = R) := by
    show _ = _
    rw [HR.out, List.take_of_length_le (by rw [hlm.out]; omega)]
   by_cases h2 : M = 0
   ·subst h2; have hr : Hid (RepPost l v (.returned (.tuple #[.slice none 0 0, .int .i64 16])) wr) := ⟨fun h => absurd HE0.out h, fun _ => ⟨fun _ => rfl, fun h => by rw [HW.out, HM.out] at h; omega⟩⟩; go_wp2
    (try simp only [Exit.inBlock, Exit.then])
    refine bodyPost_ret (v := .tuple #[.slice none 0 0, .int .i64 16]) (by simp [results, Tryz.results37, go_sem, asAddr]) rfl ?_; exact ⟨HE.out _ _ hr.out, hb.out⟩
   ·have h3 : ¬ (M : Int) + 1 < 2 := by omega
    have b1 : (0 : Int) <= (M : Int) + 1 := by omega
    have b2 : (M : Int) + 1 <= (j : Int) + 1 := by omega
    have hr : Hid (∀ W, FixesAt W gr 0 (M + 1) R -> RepPost l v (.returned (.tuple #[.slice (some ⟨gr, 0, none⟩) (M + 1) (M + 1), .int .i64 0])) W) := fun W hW => ⟨fun h => absurd HE0.out h, fun _ => ⟨fun h => by rw [HW.out, HM.out] at h; omega, fun _ => ⟨gr, by rw [HW.out, HM.out], by rw [HW.out, HM.out]; exact hW⟩⟩⟩
    go_wp2_with fail
    refine (clip_fix gr 0 (M + 1) (j + 1) _ (by omega) (by omega)).mono ?_; rintro e w9 ⟨rfl, rfl⟩; go_wp2
    (try simp only [Exit.inBlock, Exit.then])
    refine bodyPost_ret (v := .tuple #[.slice (some ⟨gr, 0, none⟩) (M + 1) (M + 1), .int .i64 0]) (by simp [results, Tryz.results37, go_sem, asAddr]) rfl ?_; exact ⟨HE.out _ _ (hr.out _ hF.out), hb.out⟩
end Go.Proofs.YtmafmebcgmegeaaGreatDoor
